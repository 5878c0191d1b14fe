package tests

import (
	"reflect"
	"slices"
	"strings"
	"testing"

	"loop.example/s15618/impl"
)

func textOf(srcs []impl.Source, name string) string {
	for _, src := range srcs {
		if src.Name == name {
			return src.Text
		}
	}
	return ""
}

func TestCheckAgainstPlainWords(t *testing.T) {
	codes, states := map[int]int{}, map[int]int{}
	manySources(30, 1500, func(d *dice, srcs []impl.Source) {
		w := newWorld(srcs)
		for _, name := range moduleNames {
			if got := impl.Reach(srcs, name); !slices.Equal(got, w.reach(name)) {
				t.Errorf("%q of %q reaches %q", name, srcs, got)
			}
			sig := plainSignature(srcs, name)
			wantSig(t, srcs, name, sig)
			states[sig.State]++
			want := plainDiagnose(srcs, name)
			wantDiags(t, srcs, name, diagsText(want))
			codes[0] += len(parse(textOf(srcs, name))) - len(want)
			for _, diag := range want {
				codes[diag.Code]++
			}
		}
	})
	for code := range 9 {
		if codes[code] < 100 {
			t.Errorf("few declarations have the code %d: %v", code, codes)
		}
	}
	for state := range 3 {
		if states[state] < 100 {
			t.Errorf("few modules have the state %d: %v", state, states)
		}
	}
}

// otherExpr puts another expression into every value of the text.
func otherExpr(d *dice, text string) string {
	pieces := strings.Split(text, ";")
	for i, piece := range pieces {
		if head, _, ok := strings.Cut(piece, "="); ok && strings.HasPrefix(strings.TrimSpace(piece), "val") {
			items := someExpr(d, d.roll(4))
			pieces[i] = head + "=" + plainPrint{asNeeded}.wholeExpr(items)
		}
	}
	return strings.Join(pieces, ";")
}

// Promise 8.
func TestSignatureHangsOnNoExpression(t *testing.T) {
	changed := 0
	manySources(31, 600, func(d *dice, srcs []impl.Source) {
		other := slices.Clone(srcs)
		for i := range other {
			if text := otherExpr(d, other[i].Text); len(text) <= impl.MaxText {
				other[i].Text = text
			}
		}
		for _, name := range moduleNames {
			wantSig(t, other, name, impl.Signature(srcs, name))
			if diagsText(impl.Diagnose(srcs, name)) != diagsText(impl.Diagnose(other, name)) {
				changed++
			}
		}
	})
	if changed < 100 {
		t.Errorf("only %d modules have other faults with other expressions", changed)
	}
}

// Promise 9.
func TestCircularModules(t *testing.T) {
	manySources(32, 600, func(d *dice, srcs []impl.Source) {
		for _, src := range srcs {
			reach := impl.Reach(srcs, src.Name)
			circular := slices.ContainsFunc(append(slices.Clone(reach), src.Name), func(name string) bool {
				return slices.Contains(impl.Reach(srcs, name), name)
			})
			if state := impl.Signature(srcs, src.Name).State; (state == 2) != circular {
				t.Errorf("%q of %q has the state %d", src.Name, srcs, state)
			}
			wantCodesFour(t, srcs, src)
		}
	})
}

func wantCodesFour(t *testing.T, srcs []impl.Source, src impl.Source) {
	t.Helper()
	var want, got, met []string
	for i, decl := range parse(src.Text) {
		if decl.Kind == impl.DImport && !slices.Contains(met, decl.Name) && impl.Signature(srcs, decl.Name).State == 2 {
			want = append(want, diagsText([]impl.Diag{{Decl: i, Code: 4}}))
		}
		if decl.Kind == impl.DImport {
			met = append(met, decl.Name)
		}
	}
	for _, diag := range impl.Diagnose(srcs, src.Name) {
		if diag.Code == 4 {
			got = append(got, diagsText([]impl.Diag{diag}))
		}
	}
	if !slices.Equal(got, want) {
		t.Errorf("%q of %q has %q, want %q", src.Name, srcs, got, want)
	}
}

// Promise 10.
func TestDiagnoseHangsOnReachAlone(t *testing.T) {
	d := dice(33)
	changed := 0
	manySources(34, 600, func(_ *dice, srcs []impl.Source) {
		for _, src := range srcs {
			matters := append(impl.Reach(srcs, src.Name), src.Name)
			other := slices.DeleteFunc(slices.Clone(srcs), func(s impl.Source) bool { return !slices.Contains(matters, s.Name) })
			for _, name := range []string{"d", "c", "b", "a", "other"} {
				m := maker{dice: &d, name: name}
				text := m.text()
				if !slices.Contains(matters, name) && len(text) <= impl.MaxText && d.roll(2) == 0 {
					other = append(other, impl.Source{Name: name, Text: text})
					changed++
				}
			}
			for i := range other {
				j := d.roll(len(other))
				other[i], other[j] = other[j], other[i]
			}
			wantDiags(t, other, src.Name, diagsText(impl.Diagnose(srcs, src.Name)))
			wantSig(t, other, src.Name, impl.Signature(srcs, src.Name))
		}
	})
	if changed < 1000 {
		t.Errorf("only %d sources are other ones", changed)
	}
}

// What stands between the tokens says nothing, and neither do brackets.
func TestCheckHangsOnTokensAlone(t *testing.T) {
	manySources(35, 200, func(d *dice, srcs []impl.Source) {
		other := slices.Clone(srcs)
		for i := range other {
			if text := spaced(d, plainTokens(other[i].Text)); len(text) <= impl.MaxText {
				other[i].Text = text
			}
		}
		for _, name := range moduleNames {
			wantDiags(t, other, name, diagsText(impl.Diagnose(srcs, name)))
			wantSig(t, other, name, impl.Signature(srcs, name))
		}
	})
}

func TestMemoryOfChecks(t *testing.T) {
	manySources(36, 200, func(d *dice, srcs []impl.Source) {
		srcs = append(make([]impl.Source, 0, len(srcs)+3), srcs...)
		before := append([]impl.Source{}, srcs[:cap(srcs)]...)
		for _, name := range moduleNames {
			impl.ValidSources(srcs)
			reach, sig, diags := impl.Reach(srcs, name), impl.Signature(srcs, name), impl.Diagnose(srcs, name)
			wantApart(t, srcs, reach, sig, diags)
			for _, src := range srcs {
				wantNewTexts(t, src.Text, reach)
				wantNewTexts(t, src.Text, sig)
				wantNewTexts(t, src.Name, reach)
				wantNewTexts(t, src.Name, sig)
			}
			wantNewTexts(t, name, reach)
			spoil(reach, "spoilt")
			spoil(diags, impl.Diag{Decl: -7, Code: -7})
			spoil(sig.Types, impl.Export{Name: "spoilt"})
			spoil(sig.Vals, impl.Export{Name: "spoilt"})
			for _, n := range sig.Graph.Nodes {
				spoil(n.Names, "spoilt")
				spoil(n.Kids, -7)
			}
			wantSig(t, srcs, name, plainSignature(srcs, name))
			wantDiags(t, srcs, name, diagsText(plainDiagnose(srcs, name)))
		}
		if !reflect.DeepEqual(before, srcs[:cap(srcs)]) {
			t.Errorf("%q has become %q", before, srcs)
		}
	})
}
