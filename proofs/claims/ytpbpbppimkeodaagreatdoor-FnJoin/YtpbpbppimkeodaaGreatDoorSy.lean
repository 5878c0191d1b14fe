/-
  CoG
-/
import Derived.Test.YtpbpbppimkeodaaGreatDoorSq
import Derived.Test.YtpbpbppimkeodaaGreatDoorSx
import Derived.Test.YtpbpbppimkeodaaGreatDoorSp
import Derived.Test.YtpbpbppimkeodaaGreatDoorSs
set_option maxRecDepth 100000
namespace Go.Proofs.YtpbpbppimkeodaaGreatDoor
open Go.RowKit Go.Maps
def MCanonPost (w : World) (N R : Nat) (G : Nat -> ND) (ns : Nat -> Nat) (e : Ending) (w' : World) : Prop:=
 ∃ (cm r : Nat -> Nat),(∀ x y,x < N -> y < N -> (cm x = cm y ↔ Same N G x y)) /\
   (∀ t,t < (allTill G cm (N + 1) ns [] R).length -> r t < N /\ (cm (r t) : Int) = ((((allTill G cm (N + 1) ns [] R).map cm).getD t 0 : Nat) : Int)) /\
   ∃ (oa : Option Addr) (b' cap : Nat) (q : Nat -> NP) (la : Option Addr) (lb lc : Nat),e = .returned (.tuple #[.agg #[.slice oa (allTill G cm (N + 1) ns [] R).length cap],.slice la R lc]) /\
   NodesAt w' oa b' 0 (allTill G cm (N + 1) ns [] R).length q (mN G cm (allTill G cm (N + 1) ns [] R) r) /\
   IntsAt w' la lb 0 R (fun i=>(numOf cm (allTill G cm (N + 1) ns [] R) (ns i) : Int)) /\ Below w.heap.size w w'
theorem NodesAt.congr {w : World} {ao : Option Addr} {b o n : Nat} {p : Nat -> NP} {G H : Nat -> ND} (h : NodesAt w ao b o n p G) (e : ∀ i,i < n -> G i = H i) : NodesAt w ao b o n p H:=
 ⟨h.at_,fun i hi=>by rw [<- e i hi];exact h.c0 i hi,fun i hi=>by rw [<- e i hi];exact h.c1 i hi,fun i hi=>by rw [<- e i hi];exact h.c2 i hi,fun i hi=>by rw [<- e i hi];exact h.node i hi,h.len⟩
theorem own_base {w : World} {b b' : Nat} {e : TypeId} {sz : Nat} {v : Value} {n : Nat} {xs : List Value} (h : w.ownsRow b e sz v n xs) (hb : b' <= b) : w.ownsRow b' e sz v n xs:=by
 obtain ⟨h1,h2⟩:=h
 refine ⟨h1,?_⟩
 rcases h2 with q | ⟨g,cap,cur,a,c,d⟩
 ·exact Or.inl q
 ·exact Or.inr ⟨g,cap,cur,a,by omega,d⟩
set_option maxHeartbeats 16000000 in
theorem m_canon {N b o : Nat} {p : Nat -> NP} {G : Nat -> ND} (ao ra : Option Addr) (gc R rc rl ro : Nat) (ns : Nat -> Nat) (w : World) (hK : Kids N G) (hN : N <= 8000) (hR : R <= 2000) (hnn : ∀ x,x < N -> (G x).nn <= 1048576) (hnk : ∀ i,i < N -> (G i).nk <= 1048576)
  (hns : ∀ i,i < R -> ns i < N) (hG : NodesAt w ao b o N p G) (hI : IntsAt w ra rl ro R (fun i=>(ns i : Int))) :
  Calls Tryz.prog 30 #[.agg #[.slice ao N gc],.slice ra R rc] w (MCanonPost w N R G ns):=by
 have HG : Hid (∀ w',Below w.heap.size w w' -> NodesAt w' ao b o N p G):=fun w' hb=>hG.below hb
 have HI : Hid (∀ w',Below w.heap.size w w' -> IntsAt w' ra rl ro R (fun i=>(ns i : Int))):=fun w' hb=>hI.below hb
 have HNN : Hid (∀ x,x < N -> (G x).nn <= 1048576):=hnn
 have HNK : Hid (∀ i,i < N -> (G i).nk <= 1048576):=hnk
 have HNS : Hid (∀ i,i < R -> ns i < N):=hns
 have HK : Hid (Kids N G):=hK
 have AI:=hI.at_
 clear hG hI hnn hnk hns hK
 obtain ⟨i1,hj0,hj1,hj2,hj3⟩:=info_parts Tryz.info3
 obtain ⟨W0,hW0⟩ : ∃ W0,W0 = (w.alloc (.cells #[.slice ao N gc] 29)).alloc (.cells #[.slice none 0 0] 29):=⟨_,rfl⟩
 have B0 : Below w.heap.size w W0:=by rw [hW0];exact bel2 _ _ _
 have z0 : w.heap.size + 1 < W0.heap.size:=by rw [hW0];simp
 have r0 : W0.rowIs (w.heap.size + 1) 29 1 (fun _=>.slice none 0 0):=by
  rw [hW0]
  have:=row1 (w.alloc (.cells #[.slice ao N gc] 29)) (.slice none 0 0) 29
  simpa using this
 obtain ⟨i0,hi0,hz0,hz1,hz2⟩:=info_parts Tryz.info48
 have c0 : W0.cell? ⟨w.heap.size,0,none⟩ = some (.slice ao N gc):=by rw [hW0];exact ((row1 _ _ _).alloc _).cell (i:=0) (by omega)
 have HCC : Hid (Calls Tryz.prog 45 #[.agg #[.slice ao N gc]] W0 fun e w'=>∃ (nb : Nat) (nx : Nat -> Nat),e = .returned (.slice (some ⟨nb,0,none⟩) N N) /\ IntsAt w' (some ⟨nb,0,none⟩) nb 0 N (fun i=>(nx i : Int)) /\
   (∀ a b,a < N -> b < N -> (nx a = nx b ↔ Same N G a b)) /\ Below W0.heap.size W0 w'):=sm12 ao b o N gc p G W0 (HG.out W0 B0) HK.out hN
 go_enter Tryz.func30,Tryz.ntmps30
 go_wp2_with fail
 rw [<- hW0]
 clear hW0
 refine HCC.out.mono ?_
 rintro e w1 ⟨nb,cm,rfl,hC,hcm,hb1⟩
 have BW1 : Below w.heap.size w w1:=B0.trans (hb1.mono B0.size)
 have hs1:=hb1.size
 have c1 : w1.cell? ⟨w.heap.size,0,none⟩ = some (.slice ao N gc):=(hb1.cell (p:=⟨w.heap.size,0,none⟩) (by show w.heap.size < W0.heap.size;omega)).trans c0
 have HRR : Hid (∀ wz,Below w1.heap.size w1 wz -> wz.rowIs (w.heap.size + 1) 29 1 (fun _=>.slice none 0 0)):=fun wz hz=>(r0.of_block (hb1.block _ z0)).of_block (hz.block _ (by omega))
 have HCM : Hid (∀ a b,a < N -> b < N -> (cm a = cm b ↔ Same N G a b)):=hcm
 have HCI : Hid (IntsAt w1 (some ⟨nb,0,none⟩) nb 0 N (fun i=>(cm i : Int))):=hC
 have HVV:=fun f=>@m_visit N b o nb 0 p G cm ao (some ⟨nb,0,none⟩) gc N w1 (HG.out w1 BW1) HCI.out HK.out HNK.out (by omega) f
 have HV : Hid (∀ (f : Nat) (st : List Nat) (node : Nat) (oa : Option Addr) (n cap : Nat) (w' : World),Below w1.heap.size w1 w' -> w'.ownsRow w1.heap.size 3 1 (.slice oa n cap) n (icells (st.map cm)) -> node < N -> (∀ s,s ∈ st -> s < N) -> Apart cm st -> missing N cm st < f ->
   Calls Tryz.prog 50 #[.agg #[.slice ao N gc],.slice (some ⟨nb,0,none⟩) N N,.slice oa n cap,.int .i64 (node : Int)] w' (VisPost w1.heap.size w' (.slice oa n cap) cm (vis G cm f st node))):=HVV
 have ST : Hid ((w1.alloc (.cells #[] 3)).ownsRow w1.heap.size 3 1 (.slice (some ⟨w1.heap.size,0,none⟩) 0 0) 0 (icells [])):=World.ownsRow_lit w1 #[] 0 (Nat.le_refl _) (by unfold maxLen;omega) (by rfl)
 obtain ⟨A,hAA⟩ : ∃ A : Nat -> List Nat,A = fun i=>allTill G cm (N + 1) ns [] i:=⟨_,rfl⟩
 have HA0 : Hid (A 0 = []):=by rw [hAA];rfl
 have HA1 : Hid (∀ i,A (i + 1) = vis G cm (N + 1) (A i) (ns i)):=fun i=>by rw [hAA];exact allTill_succ _ _ _ _ _ _
 have HAF : Hid (∀ i,i <= R -> (∀ s,s ∈ A i -> s < N) /\ Apart cm (A i) /\ missing N cm (A i) < N + 1):=fun i hi=>by
  rw [hAA]
  obtain ⟨a1,a2,a3⟩:=till_facts (f:=N + 1) (cm:=cm) (m:=R) HK.out (ks:=ns) HNS.out (S:=[]) (fun s hs=>by cases hs) List.Pairwise.nil i hi
  exact ⟨a1,a2,Nat.lt_of_le_of_lt a3 (by have:=missing_all N cm [];omega)⟩
 have HAE : Hid (A R = allTill G cm (N + 1) ns [] R):=by rw [hAA];rfl
 clear hAA HVV hC hcm hb1 HCC
 go_wp2
 go_loopw [7,8] (fun v i wr=>∃ (k n cap : Nat) (oa : Option Addr),v = .slice oa n cap /\ i = .int .i64 k /\ k <= R /\ Hid (wr.ownsRow w1.heap.size 3 1 (.slice oa n cap) n (icells ((A k).map cm)) /\ Below w1.heap.size w1 wr)) (fun _ i _=>R - (intOf i).toNat)
 case atStart=>exact ⟨0,0,0,_,rfl,rfl,Nat.zero_le _,by rw [HA0.out];exact ST.out,bel1 _ _⟩
 case round=>
  obtain ⟨k,n,cap,oa,rfl,rfl,hk,HO⟩:=hrel
  clear ST
  have BR : Below w.heap.size w wr:=BW1.trans (HO.out.2.mono BW1.size)
  have cr : wr.cell? ⟨w.heap.size,0,none⟩ = some (.slice ao N gc):=(HO.out.2.cell (p:=⟨w.heap.size,0,none⟩) (by show w.heap.size < w1.heap.size;omega)).trans c1
  by_cases hlt : k < R
  case pos=>
   have er:=AI (by omega)
   subst er
   have ck:=(HI.out wr BR).cell k hlt
   have lk : (k : Int) < (R : Int):=by omega
   have HCL : Hid (∀ wz,Below wr.heap.size wr wz -> Calls Tryz.prog 50 #[.agg #[.slice ao N gc],.slice (some ⟨nb,0,none⟩) N N,.slice oa n cap,.int .i64 (ns k : Int)] wz (fun e w'=>∃ (oa2 : Option Addr) (n2 cap2 : Nat),e = .returned (.slice oa2 n2 cap2) /\ w'.cell? ⟨w.heap.size,0,none⟩ = some (.slice ao N gc) /\ w'.cell? ⟨rl,ro + k,none⟩ = some (.int .i64 (ns k : Int)) /\ Hid (w'.ownsRow w1.heap.size 3 1 (.slice oa2 n2 cap2) n2 (icells ((A (k + 1)).map cm)) /\ Below w1.heap.size w1 w'))):=fun wz hz=>by
    obtain ⟨a1,a2,a3⟩:=HAF.out k hk
    have hOz : wz.ownsRow w1.heap.size 3 1 (.slice oa n cap) n (icells ((A k).map cm)):=own_block HO.out.1 (fun j e=>hz.block j (HO.out.1.lt j e.symm).2)
    have bz : Below w1.heap.size w1 wz:=HO.out.2.trans (hz.mono HO.out.2.size)
    refine (HV.out (N + 1) (A k) (ns k) oa n cap wz bz hOz (HNS.out k hlt) a1 a2 a3).mono ?_
    rintro e w' ⟨oa2,n2,cap2,rfl,h1,h2,h3⟩
    have b2 : Below w1.heap.size w1 w':=below_of_grown bz bz.size h2 (fun j e=>(hOz.lt j e).1)
    refine ⟨oa2,n2,cap2,rfl,(b2.cell (p:=⟨w.heap.size,0,none⟩) (by show w.heap.size < w1.heap.size;omega)).trans c1,(HI.out w' (BW1.trans (b2.mono BW1.size))).cell k hlt,?_,b2⟩
    rw [HA1.out];exact h1
   go_wp2
   go_region_held3 (fun w'=>w'.cell? ⟨w.heap.size,0,none⟩ = some (.slice ao N gc) /\ w'.cell? ⟨rl,ro + k,none⟩ = some (.int .i64 (ns k : Int))) (go_keep)
    (first
     | (go_at_call 50;refine (HCL.out _ (by first | exact Below.refl _ _ | exact (Below.refl _ _).drew | exact below_drewN (Below.refl _ _) _)).mono ?_;rintro e wB ⟨oa2,n2,cap2,rfl,s0,s1,HR⟩))
   all_goals
    go_wp2
    go_roundw
    case rel=>exact ⟨k + 1,n2,cap2,oa2,rfl,by go_num,by omega,by first | exact HR | exact ⟨own_block HR.out.1 (fun _ _=>rfl),by first | exact HR.out.2 | exact HR.out.2.drew | exact below_drewN HR.out.2 _⟩⟩
    case measure=>simp [intOf];omega
  case neg=>
   have HKR : Hid (k = R):=by show k = R;omega
   have lk : ¬ (k : Int) < (R : Int):=by omega
   clear hlt
   obtain ⟨M,hM⟩ : ∃ M,M = A R:=⟨_,rfl⟩
   have OM : Hid (wr.ownsRow w1.heap.size 3 1 (.slice oa n cap) n (icells (M.map cm))):=by rw [hM,<- HKR.out];exact HO.out.1
   have HMF : Hid ((∀ s,s ∈ M -> s < N) /\ Apart cm M):=by rw [hM];exact ⟨(HAF.out R (Nat.le_refl _)).1,(HAF.out R (Nat.le_refl _)).2.1⟩
   have HME : Hid (M = allTill G cm (N + 1) ns [] R):=by rw [hM];exact HAE.out
   have HST : Hid (∀ j,j < R -> stands cm M (ns j) = true):=by rw [HME.out];exact (allTill_full (G:=G) (cl:=cm) HK.out (f:=N + 1) (ns:=ns) (m:=R) HNS.out (by omega) R (Nat.le_refl _)).2.1
   have HML : Hid (M.length = n):=by show _ = _;have:=OM.out.1;simpa [icells] using this
   have hnN : n <= N:=by have:=apart_len HMF.out.2 HMF.out.1;rw [HML.out] at this;exact this
   clear hM
   obtain ⟨r,hr⟩:=reps (cm:=cm) HMF.out.1
   have HR : Hid (∀ t,t < n -> r t < N /\ (cm (r t) : Int) = (((M.map cm).getD t 0 : Nat) : Int) /\ ∀ j,j < r t -> (cm j : Int) ≠ (((M.map cm).getD t 0 : Nat) : Int)):=fun t ht=>hr t (by rw [HML.out];exact ht)
   clear hr
   have B1R : Hid (Below w1.heap.size w1 wr):=HO.out.2
   have hrs:=HO.out.2.size
   have SA : Hid (Lq (w.heap.size + 1) wr (wr.alloc (.cells #[] 48)) (.slice (some ⟨wr.heap.size,0,none⟩) 0 0) (fun _=>np0) []):=⟨World.ownsRow_lit wr #[] 0 (Nat.le_refl _) (by unfold maxLen;omega) (by rfl),bel1 _ _,⟨by simp;omega,fun e=>absurd (show w.heap.size + 1 = wr.heap.size from by simpa [Value.ownBlock] using e) (by omega)⟩,fun i hi=>absurd hi (Nat.not_lt_zero _)⟩
   clear HO
   go_wp2
   go_loopw [9,10] (fun v i wx=>∃ (t : Nat) (q : Nat -> NP),t <= n /\ i = .int .i64 t /\ Lq (w.heap.size + 1) wr wx v q (upN (mN G cm M r) t)) (fun _ i _=>n - (intOf i).toNat)
   case atStart=>exact ⟨0,fun _=>np0,Nat.zero_le _,rfl,SA.out⟩
   case round=>
    rename World=>wx
    obtain ⟨t,q,ht,rfl,hQ⟩:=hrel
    clear SA
    have HBX : Hid (Below wr.heap.size wr wx):=hQ.below
    have B1X : Below w1.heap.size w1 wx:=B1R.out.trans (HBX.out.mono B1R.out.size)
    have BX : Below w.heap.size w wx:=BW1.trans (B1X.mono BW1.size)
    have cx : wx.cell? ⟨w.heap.size,0,none⟩ = some (.slice ao N gc):=(B1X.cell (p:=⟨w.heap.size,0,none⟩) (by show w.heap.size < w1.heap.size;omega)).trans c1
    have ho:=hQ.own
    rw [upN_len] at ho
    obtain ⟨ov,oc,rfl⟩:=own_form ho
    have HQ : Hid (Lq (w.heap.size + 1) wr wx (.slice ov t oc) q (upN (mN G cm M r) t)):=hQ
    have OWN : wx.ownsRow wr.heap.size 48 3 (.slice ov t oc) t (ncells q (gd (upN (mN G cm M r) t)) (upN (mN G cm M r) t).length):=by have:=hQ.own;rw [upN_len] at this ⊢;exact this
    have HOI : Hid (0 < n -> ∃ g,oa = some ⟨g,0,none⟩ /\ ∀ wz,Below wr.heap.size wr wz -> IntsAt wz (some ⟨g,0,none⟩) g 0 n (fun i=>(((M.map cm).getD i 0 : Nat) : Int))):=fun z=>by
     obtain ⟨g,hgi,_⟩:=own_ints OM.out
     have eo:=hgi.at_ z
     exact ⟨g,eo,fun wz hz=>by have:=hgi.below hz;rw [eo] at this;exact this⟩
    clear hQ ho
    by_cases hlt : t < n
    case neg=>
     have htn : t = n:=by omega
     have lt' : ¬ (t : Int) < (n : Int):=by omega
     have FR : Hid (Lq (w.heap.size + 1) wr wx (.slice ov n oc) q (upN (mN G cm M r) n)):=by rw [<- htn];exact HQ.out
     have SR : Hid ((wx.alloc (.cells #[] 3)).ownsRow wx.heap.size 3 1 (.slice (some ⟨wx.heap.size,0,none⟩) 0 0) 0 (zcells (upZ (fun i=>(numOf cm M (ns i) : Int)) 0))):=World.ownsRow_lit wx #[] 0 (Nat.le_refl _) (by unfold maxLen;omega) (by rfl)
     have hxs:=B1X.size
     have hxw:=BX.size
     clear OWN HQ cx hlt ht
     subst htn
     go_wp2
     go_loopw [14,15] (fun v i wl=>∃ j : Nat,j <= R /\ i = .int .i64 j /\ wl.ownsRow wx.heap.size 3 1 v j (zcells (upZ (fun i=>(numOf cm M (ns i) : Int)) j)) /\ Below wx.heap.size wx wl) (fun _ i _=>R - (intOf i).toNat)
     case atStart=>exact ⟨0,Nat.zero_le _,rfl,SR.out,bel1 _ _⟩
     case round=>
      rename World=>wl
      obtain ⟨j,hj,rfl,hO,hbl⟩:=hrel
      clear SR
      obtain ⟨la,lc,rfl⟩:=own_form hO
      have hls:=hbl.size
      have B1L : Below w1.heap.size w1 wl:=B1X.trans (hbl.mono B1X.size)
      have BL : Below w.heap.size w wl:=BW1.trans (B1L.mono BW1.size)
      by_cases hjl : j < R
      case pos=>
       have er:=AI (by omega)
       subst er
       have ck:=(HI.out wl BL).cell j hjl
       have hnj:=HNS.out j hjl
       have cc:=(HCI.out.below B1L).cell (ns j) hnj
       rw [Nat.zero_add] at cc
       obtain ⟨np1,np2,np3⟩:=numOf_place (HST.out j hjl)
       rw [HML.out] at np1
       obtain ⟨g,eo,HGO⟩:=HOI.out (by omega)
       subst eo
       have HIO : Hid (IntsAt wl (some ⟨g,0,none⟩) g 0 t (fun i=>(((M.map cm).getD i 0 : Nat) : Int))):=HGO wl (HBX.out.trans (hbl.mono HBX.out.size))
       obtain ⟨u,hu⟩ : ∃ u,u = numOf cm M (ns j):=⟨_,rfl⟩
       obtain ⟨s,hs⟩ : ∃ s,s = ns j:=⟨_,rfl⟩
       obtain ⟨c,hc⟩ : ∃ c,c = cm s:=⟨_,rfl⟩
       have HU : Hid (u = numOf cm M (ns j)):=hu
       rw [<- hu] at np1 np2 np3
       rw [<- hs] at ck cc hnj np2 np3
       rw [<- hc] at cc np2 np3
       have HPC : Hid (Calls Tryz.prog 51 #[.slice (some ⟨g,0,none⟩) t cap,.int .i64 (c : Int)] wl fun e w'=>e = .returned (.int .i64 (u : Int)) /\ wl = w'):=m_place _ g 0 t cap _ (c : Int) u wl HIO.out np1 np2 np3
       clear hu hs hc np1 np2 np3 HGO HIO
       have lj : (j : Int) < (R : Int):=by omega
       have ls : (s : Int) < (N : Int):=by omega
       go_wp2_with (first
        | (go_at_call 51;refine HPC.out.mono ?_;rintro e wq ⟨rfl,rfl⟩)
        | (at_builtin;refine wpList_append_lies _ rfl _ _ 25 rfl wx.heap.size 3 i1 _ 1 8 Tryz.underlying25 hj0 hj1 hj2 hj3 rfl (by omega) (.slice la j lc) j (zcells (upZ (fun i=>(numOf cm M (ns i) : Int)) j)) rfl (hO.alloc _) ⟨wl.heap.size,0,none⟩ 1 1 [.int .i64 (u : Int)] rfl rfl (cell_one_new _ _ _) (by simp [Value.oneCell']) (by omega) (by unfold maxLen;omega) (by omega) (by simp;omega) (wl.heap.size + 1) (by simp) ?_;intro gg cap6 w6 hown6 hg6 hat6 hlt6))
       have HN : Hid (w6.ownsRow wx.heap.size 3 1 (.slice (some ⟨gg,0,none⟩) (j + 1) cap6) (j + 1) (zcells (upZ (fun i=>(numOf cm M (ns i) : Int)) (j + 1))) /\ Below wx.heap.size wx w6):=
        ⟨by rw [upZ_succ,<- HU.out];unfold zcells;rw [List.map_append];exact hown6,below_grown hbl hls hg6 (fun j hj=>(hO.lt j hj).1)⟩
       clear hown6 hg6 hat6 hO hbl
       go_wp2
       go_roundw
       case rel=>exact ⟨j + 1,by omega,by go_num,HN.out.1,HN.out.2⟩
       case measure=>simp [intOf];omega
      case neg=>
       have hjR : j = R:=by omega
       have lj : ¬ (j : Int) < (R : Int):=by omega
       subst hjR
       have RR:=HRR.out wl B1L
       have k0:=RR.cell (i:=0) (by omega)
       have k1:=RR.frozen 0
       have FIN : Hid (∃ b,NodesAt (wl.setCell ⟨w.heap.size + 1,0,none⟩ (.slice ov t oc)) ov b 0 t q (mN G cm M r)):=by
        obtain ⟨b,hb⟩:=lq_out (FR.out.later hbl) (upN_len _ _) (by omega) 0 (.slice ov t oc)
        exact ⟨b,hb.congr (fun i hi=>gd_upN _ hi)⟩
       have FIL : Hid (∃ lb,IntsAt (wl.setCell ⟨w.heap.size + 1,0,none⟩ (.slice ov t oc)) la lb 0 j (fun i=>(numOf cm M (ns i) : Int))):=by
        obtain ⟨lb,LI,LB⟩:=own_zs hO
        exact ⟨lb,(LI.later (fun z=>Below.heap_setCell _ _ _ _ (by show lb ≠ w.heap.size + 1;have:=LB z;omega))).congr (fun i hi=>upZ_get _ hi)⟩
       have FB : Hid (Below w.heap.size w (wl.setCell ⟨w.heap.size + 1,0,none⟩ (.slice ov t oc))):=BL.setCell (by show w.heap.size <= w.heap.size + 1;omega) _
       clear hO hbl RR FR
       go_wp2
       obtain ⟨b,FIN⟩:=FIN.out
       obtain ⟨lb,FIL⟩:=FIL.out
       refine bodyPost_ret (v:=.tuple #[.agg #[.slice ov t oc],.slice la j lc]) (by simp [results,Tryz.results30,go_sem,k0]) rfl ⟨cm,r,HCM.out,?_,ov,b,oc,q,la,lb,lc,?_,?_,?_,FB.out⟩
       ·rw [<- HME.out,HML.out];exact fun t ht=>⟨(HR.out t ht).1,(HR.out t ht).2.1⟩
       ·rw [<- HME.out,HML.out]
       ·rw [<- HME.out,HML.out];exact FIN
       ·rw [<- HME.out];exact FIL
    obtain ⟨g,eo,HGO⟩:=HOI.out (by omega)
    subst eo
    have HIO : Hid (∀ wz,Below wr.heap.size wr wz -> IntsAt wz (some ⟨g,0,none⟩) g 0 n (fun i=>(((M.map cm).getD i 0 : Nat) : Int))):=HGO
    have cO : wx.cell? ⟨g,t,none⟩ = some (.int .i64 (((M.map cm).getD t 0 : Nat) : Int)):=by
     have h1:=(HIO.out wx HBX.out).cell t hlt
     rw [Nat.zero_add] at h1
     exact h1
    clear HGO HOI
    obtain ⟨x,hx⟩ : ∃ x,x = r t:=⟨_,rfl⟩
    obtain ⟨y,hy⟩ : ∃ y,y = (M.map cm).getD t 0:=⟨_,rfl⟩
    have HX : Hid (r t = x):=hx.symm
    obtain ⟨hxN,hx1,hx2⟩:=HR.out t hlt
    rw [<- hx] at hxN hx1 hx2
    rw [<- hy] at hx1 hx2 cO
    have HPL : Hid (∀ wz,Below w1.heap.size w1 wz -> Calls Tryz.prog 51 #[.slice (some ⟨nb,0,none⟩) N N,.int .i64 (y : Int)] wz fun e w'=>e = .returned (.int .i64 (x : Int)) /\ wz = w'):=fun wz hz=>m_place _ nb 0 N N (fun i=>(cm i : Int)) (y : Int) x wz (HCI.out.below hz) hxN hx1 hx2
    have HKS : Hid (∀ j,j < (G x).nk -> (G x).kd j = (kid (G x) j : Int) /\ kid (G x) j < N /\ stands cm M (kid (G x) j) = true):=fun j hj=>by
     have h0:=HK.out x hxN j hj
     have e1 : (G x).kd j = (kid (G x) j : Int):=by unfold kid;omega
     refine ⟨e1,by rw [e1] at h0;omega,?_⟩
     rw [HME.out]
     have htM : t < (allTill G cm (N + 1) ns [] R).length:=by rw [<- HME.out,HML.out];exact hlt
     refine kid_stands HK.out HNS.out HCM.out hxN htM ?_ hj
     have:=Int.ofNat.inj hx1
     rw [this,hy,HME.out]
     exact map_getD htM
    have NX:=HG.out wx BX
    have ea:=NX.at_ (by omega)
    subst ea
    have g0:=NX.c0 x hxN
    have g1:=NX.c1 x hxN
    have g2:=NX.c2 x hxN
    have HNX : Hid (∀ wz,Below wx.heap.size wx wz -> NodeAt wz (p x) (G x)):=fun wz hz=>(NX.node x hxN).below hz
    have hNNx:=HNN.out x hxN
    have hNKx:=HNK.out x hxN
    clear NX hx hy hx1 hx2
    have lt' : (t : Int) < (n : Int):=by omega
    have lx : (x : Int) < (N : Int):=by omega
    have Z0:=bel1 wx (.cells #[.int .i64 0,.slice none 0 0,.slice none 0 0] 48)
    have R0:=row3 wx (.int .i64 0) (.slice none 0 0) (.slice none 0 0) 48
    have cO':=(Z0.cell (p:=⟨g,t,none⟩) (blt cO)).trans cO
    have g0':=(Z0.cell (p:=⟨b,o + x * 3,none⟩) (blt g0)).trans g0
    have g1':=(Z0.cell (p:=⟨b,o + x * 3 + 1,none⟩) (blt g1)).trans g1
    have g2':=(Z0.cell (p:=⟨b,o + x * 3 + 2,none⟩) (blt g2)).trans g2
    have cx':=(Z0.cell (p:=⟨w.heap.size,0,none⟩) (blt cx)).trans cx
    have b0:=R0.cell (i:=0) (by omega)
    have b1:=R0.cell (i:=1) (by omega)
    have b2:=R0.cell (i:=2) (by omega)
    have f0:=R0.frozen 0
    have f1:=R0.frozen 1
    have f2:=R0.frozen 2
    go_wp2
    go_cut [11] from 34 to 80 (fun s11 wc=>∃ bx : Nat,s11 = .pointer (some ⟨bx,0,none⟩) /\ wx.heap.size <= bx /\ wc.cell? ⟨bx,0,none⟩ = some (.int .i64 (G x).kind) /\ wc.cell? ⟨bx,1,none⟩ = some (.slice (p x).a1 (G x).nn (p x).c1) /\ wc.cell? ⟨bx,2,none⟩ = some (.slice (p x).a2 (G x).nk (p x).c2) /\ Below wx.heap.size wx wc)
    case first=>
     have RN:=row3 wx (.int .i64 (G x).kind) (.slice (p x).a1 (G x).nn (p x).c1) (.slice (p x).a2 (G x).nk (p x).c2) 48
     have n0:=RN.cell (i:=0) (by omega)
     have n1:=RN.cell (i:=1) (by omega)
     have n2:=RN.cell (i:=2) (by omega)
     have HRN : Hid ((wx.alloc (.cells #[.int .i64 (G x).kind,.slice (p x).a1 (G x).nn (p x).c1,.slice (p x).a2 (G x).nk (p x).c2] 48)).cell? ⟨wx.heap.size,0,none⟩ = some (.int .i64 (G x).kind) /\ (wx.alloc (.cells #[.int .i64 (G x).kind,.slice (p x).a1 (G x).nn (p x).c1,.slice (p x).a2 (G x).nk (p x).c2] 48)).cell? ⟨wx.heap.size,1,none⟩ = some (.slice (p x).a1 (G x).nn (p x).c1) /\ (wx.alloc (.cells #[.int .i64 (G x).kind,.slice (p x).a1 (G x).nn (p x).c1,.slice (p x).a2 (G x).nk (p x).c2] 48)).cell? ⟨wx.heap.size,2,none⟩ = some (.slice (p x).a2 (G x).nk (p x).c2) /\ Below wx.heap.size wx (wx.alloc (.cells #[.int .i64 (G x).kind,.slice (p x).a1 (G x).nn (p x).c1,.slice (p x).a2 (G x).nk (p x).c2] 48))):=⟨n0,n1,n2,bel1 _ _⟩
     clear RN n0 n1 n2
     go_region_with (first | (go_at_call 51;refine (HPL.out _ (by first | exact B1X | exact B1X.drew | exact below_drewN B1X _ | exact B1X.trans ((bel1 _ _).mono B1X.size) | exact B1X.trans (((bel1 _ _).drew).mono B1X.size))).mono ?_;rintro e wq ⟨rfl,rfl⟩))
     all_goals
      go_wp2
      go_meet
      case rel=>exact ⟨wx.heap.size,rfl,Nat.le_refl _,HRN.out.1,HRN.out.2.1,HRN.out.2.2.1,by first | exact HRN.out.2.2.2 | exact HRN.out.2.2.2.drew | exact below_drewN HRN.out.2.2.2 _⟩
    obtain ⟨bx,rfl,hbx,d0,d1,d2,hbc⟩:=hcut
    clear cO cO' g0 g1 g2 g0' g1' g2' cx cx' b0 b1 b2 f0 f1 f2 Z0 R0 HPL
    have SK : Hid ((wc.alloc (.cells #[] 3)).ownsRow wc.heap.size 3 1 (.slice (some ⟨wc.heap.size,0,none⟩) 0 0) 0 (zcells (upZ (fun j=>(numOf cm M (kid (G x) j) : Int)) 0))):=World.ownsRow_lit wc #[] 0 (Nat.le_refl _) (by unfold maxLen;omega) (by rfl)
    have hcs:=hbc.size
    have hbl : bx < wc.heap.size:=blt d0
    have HBC : Hid (Below wx.heap.size wx wc):=hbc
    clear hbc
    go_wp2
    go_loopw [12,13] (fun v i wk=>∃ j : Nat,j <= (G x).nk /\ i = .int .i64 j /\ wk.ownsRow wc.heap.size 3 1 v j (zcells (upZ (fun j=>(numOf cm M (kid (G x) j) : Int)) j)) /\ Below wc.heap.size wc wk) (fun _ i _=>(G x).nk - (intOf i).toNat)
    case atStart=>exact ⟨0,Nat.zero_le _,rfl,SK.out,bel1 _ _⟩
    case round=>
     rename World=>wk
     obtain ⟨j,hj,rfl,hO,hbk⟩:=hrel
     clear SK
     obtain ⟨ka,kc,rfl⟩:=own_form hO
     have hks:=hbk.size
     have BXK : Below wx.heap.size wx wk:=HBC.out.trans (hbk.mono HBC.out.size)
     have B1K : Below w1.heap.size w1 wk:=B1X.trans (BXK.mono B1X.size)
     have y0:=(hbk.cell (p:=⟨bx,0,none⟩) hbl).trans d0
     have y1:=(hbk.cell (p:=⟨bx,1,none⟩) hbl).trans d1
     have y2:=(hbk.cell (p:=⟨bx,2,none⟩) hbl).trans d2
     by_cases hjl : j < (G x).nk
     case pos=>
      have NK:=(HNX.out wk BXK).kids
      have e2:=NK.at_ (by omega)
      rw [e2] at y2
      have ck:=NK.cell j hjl
      obtain ⟨k1,k2,k3⟩:=HKS.out j hjl
      rw [k1] at ck
      have cc:=(HCI.out.below B1K).cell (kid (G x) j) k2
      rw [Nat.zero_add] at cc
      obtain ⟨np1,np2,np3⟩:=numOf_place k3
      rw [HML.out] at np1
      have HIK : Hid (IntsAt wk (some ⟨g,0,none⟩) g 0 n (fun i=>(((M.map cm).getD i 0 : Nat) : Int))):=HIO.out wk (HBX.out.trans (BXK.mono HBX.out.size))
      obtain ⟨u,hu⟩ : ∃ u,u = numOf cm M (kid (G x) j):=⟨_,rfl⟩
      obtain ⟨s,hs⟩ : ∃ s,s = kid (G x) j:=⟨_,rfl⟩
      obtain ⟨c,hc⟩ : ∃ c,c = cm s:=⟨_,rfl⟩
      have HU : Hid (u = numOf cm M (kid (G x) j)):=hu
      rw [<- hu] at np1 np2 np3
      rw [<- hs] at ck cc k2 np2 np3
      rw [<- hc] at cc np2 np3
      have HPC : Hid (Calls Tryz.prog 51 #[.slice (some ⟨g,0,none⟩) n cap,.int .i64 (c : Int)] wk fun e w'=>e = .returned (.int .i64 (u : Int)) /\ wk = w'):=m_place _ g 0 n cap _ (c : Int) u wk HIK.out np1 np2 np3
      clear hu hs hc np1 np2 np3 k1 k3 NK e2 HIK y0 y1
      have lj : (j : Int) < ((G x).nk : Int):=by omega
      have ls : (s : Int) < (N : Int):=by omega
      go_wp2_with (first
       | (go_at_call 51;refine HPC.out.mono ?_;rintro e wq ⟨rfl,rfl⟩)
       | (at_builtin;refine wpList_append_lies _ rfl _ _ 25 rfl wc.heap.size 3 i1 _ 1 8 Tryz.underlying25 hj0 hj1 hj2 hj3 rfl (by omega) (.slice ka j kc) j (zcells (upZ (fun j=>(numOf cm M (kid (G x) j) : Int)) j)) rfl (hO.alloc _) ⟨wk.heap.size,0,none⟩ 1 1 [.int .i64 (u : Int)] rfl rfl (cell_one_new _ _ _) (by simp [Value.oneCell']) (by omega) (by unfold maxLen;omega) (by omega) (by simp;omega) (wk.heap.size + 1) (by simp) ?_;intro gg cap6 w6 hown6 hg6 hat6 hlt6))
      have HN : Hid (w6.ownsRow wc.heap.size 3 1 (.slice (some ⟨gg,0,none⟩) (j + 1) cap6) (j + 1) (zcells (upZ (fun j=>(numOf cm M (kid (G x) j) : Int)) (j + 1))) /\ Below wc.heap.size wc w6):=
       ⟨by rw [upZ_succ,<- HU.out];unfold zcells;rw [List.map_append];exact hown6,below_grown hbk hks hg6 (fun j hj=>(hO.lt j hj).1)⟩
      clear hown6 hg6 hat6 hO hbk BXK B1K
      go_wp2
      go_roundw
      case rel=>exact ⟨j + 1,by omega,by go_num,HN.out.1,HN.out.2⟩
      case measure=>simp [intOf];omega
     case neg=>
      have hjK : j = (G x).nk:=by omega
      subst hjK
      have OWNK : wk.ownsRow wr.heap.size 48 3 (.slice ov t oc) t (ncells q (gd (upN (mN G cm M r) t)) (upN (mN G cm M r) t).length):=own_block OWN (fun i e=>BXK.block i (OWN.lt i e.symm).2)
      have hrx:=HBX.out.size
      have HKI : Hid (∃ gk,IntsAt wk ka gk 0 (G x).nk (fun j=>(numOf cm M (kid (G x) j) : Int)) /\ (0 < (G x).nk -> gk < wk.heap.size /\ some gk ≠ (Value.slice ov t oc).ownBlock /\ gk ≠ w.heap.size + 1)):=by
       obtain ⟨gk,IK,IBK⟩:=own_zs hO
       refine ⟨gk,IK.congr (fun j hj=>upZ_get _ hj),fun z=>?_⟩
       obtain ⟨u1,u2,_⟩:=IBK z
       exact ⟨u2,fun e=>by have:=(OWN.lt _ e.symm).2;omega,by omega⟩
      have HNC : Hid (∀ wz,Below wk.heap.size wk wz -> Calls Tryz.prog 52 #[.slice (p x).a1 (G x).nn (p x).c1] wz fun e w'=>∃ (o4 : Option Addr) (c4 : Nat),e = .returned (.slice o4 (G x).nn c4) /\ w'.cell? ⟨bx,0,none⟩ = some (.int .i64 (G x).kind) /\ w'.cell? ⟨bx,1,none⟩ = some (.slice (p x).a1 (G x).nn (p x).c1) /\ Hid (w'.ownsRow wk.heap.size 9 1 (.slice o4 (G x).nn c4) (G x).nn (tcells (upS (G x).nm (G x).nn))) /\ Hid (Below wk.heap.size wk w')):=fun wz hz=>by
       refine (d_names (p x).a1 (p x).b1 (p x).o1 (G x).nn (p x).c1 (G x).nm wz (HNX.out wz (BXK.trans (hz.mono BXK.size))).names hNNx).mono ?_
       rintro e w' ⟨o4,c4,rfl,h1,h2⟩
       have h3 : Below wk.heap.size wk w':=hz.trans (h2.mono hz.size)
       exact ⟨o4,c4,rfl,(h3.cell (p:=⟨bx,0,none⟩) (by show bx < wk.heap.size;omega)).trans y0,(h3.cell (p:=⟨bx,1,none⟩) (by show bx < wk.heap.size;omega)).trans y1,own_base h1 hz.size,h3⟩
      have HSZ : Hid (∀ i,i < (G x).nn -> ((G x).nm i).size <= 9223372036854775807):=(HNX.out wx (Below.refl _ _)).names.size
      have HUP : Hid (upN (mN G cm M r) (t + 1) = upN (mN G cm M r) t ++ [mN G cm M r t]):=upN_succ _ _
      have hkr : wr.heap.size <= wk.heap.size:=by omega
      have hwk : w.heap.size + 1 < wk.heap.size:=by omega
      have bxo : some bx ≠ (Value.slice ov t oc).ownBlock:=fun e=>by have:=(OWN.lt _ e.symm).2;omega
      have hbk' : bx < wk.heap.size:=by omega
      clear d0 d1 d2 hj OWN
      go_wp2
      go_region_held3 (fun w'=>w'.cell? ⟨bx,0,none⟩ = some (.int .i64 (G x).kind) /\ w'.cell? ⟨bx,1,none⟩ = some (.slice (p x).a1 (G x).nn (p x).c1)) (go_keep)
       (first
        | (go_at_call 52;refine (HNC.out _ (by first | exact Below.refl _ _ | exact (Below.refl _ _).drew | exact below_drewN (Below.refl _ _) _)).mono ?_;rintro e w4 ⟨o4,c4,rfl,x0,x1,HO4,HB4⟩;have hk4:=HB4.out.size;have OWN4 : w4.ownsRow wr.heap.size 48 3 (.slice ov t oc) t (ncells q (gd (upN (mN G cm M r) t)) (upN (mN G cm M r) t).length):=own_block OWNK (fun i e=>HB4.out.block i (OWNK.lt i e.symm).2);have hr4 : wr.heap.size <= w4.heap.size:=Nat.le_trans hkr hk4)
        | (refine step_append_lies _ (by rfl) _ _ _ (by rfl) wr.heap.size 48 i0 _ 3 56 Tryz.underlying27 hi0 hz0 hz1 hz2 rfl (by omega) (.slice ov t oc) t (ncells q (gd (upN (mN G cm M r) t)) (upN (mN G cm M r) t).length) (by rfl) (by exact OWN4.alloc _) ⟨w4.heap.size,0,none⟩ 1 1 [.int .i64 (G x).kind,.slice o4 (G x).nn c4,.slice ka (G x).nk kc] (by rfl) (by rfl) (World.news_of_block (cs:=#[.int .i64 (G x).kind,.slice o4 (G x).nn c4,.slice ka (G x).nk kc]) (t:=48) (fr:=(0,0)) (heap_alloc_new w4 _)) (by simp [Value.oneCell']) (by omega) (by unfold maxLen;omega) (by omega) (by simp;omega) (w4.heap.size + 1) (by simp) ?_;intro gg cap5 w5 hown5 hg5 hat5 hlt5;have bb : w5.heap[bx]? = w4.heap[bx]?:=(hg5.block _ (by simp;omega) bxo).trans (Below.heap_alloc _ _ _ (by omega));have v0:=(World.cell?_of_block (a:=⟨bx,0,none⟩) bb).trans x0;have v1:=(World.cell?_of_block (a:=⟨bx,1,none⟩) bb).trans x1))
      all_goals
       have FIN : Hid (∃ q',Lq (w.heap.size + 1) wr w5 (.slice (some ⟨gg,0,none⟩) (t + 1) cap5) q' (upN (mN G cm M r) (t + 1))):=by
        obtain ⟨gk,IK,IBK⟩:=HKI.out
        obtain ⟨g4,S4,SB4⟩:=own_strs HO4.out (fun s hs=>by
         unfold upS at hs
         obtain ⟨i,hi,rfl⟩:=List.mem_map.1 hs
         exact HSZ.out i (List.mem_range.1 hi))
        have eM : mN G cm M r t = ⟨(G x).kind,(G x).nn,(G x).nm,(G x).nk,fun j=>(numOf cm M (kid (G x) j) : Int)⟩:=by unfold mN;rw [HX.out]
        rw [HUP.out,eM]
        exact ⟨_,lq_step (w4:=w4) HQ.out (upN_len _ _) (BXK.trans (HB4.out.mono BXK.size)) ⟨o4,g4,0,c4,ka,gk,0,kc⟩ ⟨(G x).kind,(G x).nn,(G x).nm,(G x).nk,fun j=>(numOf cm M (kid (G x) j) : Int)⟩ ⟨S4.congr (fun i hi=>upS_get _ hi),IK.below HB4.out⟩
         (fun z=>by obtain ⟨u1,u2,_⟩:=SB4 z;exact ⟨u2,fun e=>by have h5 : g4 < wk.heap.size:=(OWNK.lt g4 e.symm).2;omega,by show g4 ≠ w.heap.size + 1;omega⟩)
         (fun z=>by obtain ⟨u1,u2,u3⟩:=IBK z;exact ⟨by show gk < w4.heap.size;omega,u2,u3⟩) hown5 ⟨hg5.os,hg5.tape,hg5.output,hg5.size,hg5.block⟩ hat5⟩
       clear hown5 hg5 hat5 OWN4 OWNK HO4 HB4 x0 x1 hO hbk BXK B1K HKI HNC
       go_wp2
       go_roundw
       case rel=>
        obtain ⟨q',FIN⟩:=FIN.out
        exact ⟨t + 1,q',by omega,by go_num,by first | exact FIN | exact ⟨own_block FIN.own (fun _ _=>rfl),FIN.below.drew,FIN.box,FIN.node⟩⟩
       case measure=>simp [intOf];omega
end Go.Proofs.YtpbpbppimkeodaaGreatDoor
