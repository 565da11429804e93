package engine_test

import (
	"fmt"
	"slices"
	"strings"
	"sync"
	"testing"

	"pedigree/api"
	"pedigree/check"
	"pedigree/depend"
	"pedigree/engine"
	"pedigree/model"
	"pedigree/parse"
	"pedigree/print"
	"pedigree/semi"
	"pedigree/types"
)

// tale is what an explanation tells, read back.
type tale struct {
	ahead, plain, pruned, adorned, magic []api.Rule
	pairs                                int
	seeds                                []api.Fact
	adornedQuery, magicQuery             api.Atom
}

// reader takes an explanation's lines one by one.
type reader struct {
	t     *testing.T
	lines []string
}

func (r *reader) take(n int) []string {
	r.t.Helper()
	if n < 0 || n > len(r.lines) {
		r.t.Fatalf("%d lines are missing ahead of %q", n, r.lines)
	}
	out := r.lines[:n]
	r.lines = r.lines[n:]
	return out
}

// counts reads a line by its form, which has %d for each number.
func (r *reader) counts(form string, numbers ...*int) {
	r.t.Helper()
	line := r.take(1)[0]
	var to, got []any
	for _, n := range numbers {
		to = append(to, n)
	}
	fmt.Sscanf(line, form, to...)
	for _, n := range numbers {
		got = append(got, *n)
	}
	if line != fmt.Sprintf(form, got...) {
		r.t.Fatalf("%q; want a line like %q", line, form)
	}
}

func (r *reader) rules(n int) []api.Rule {
	r.t.Helper()
	var out []api.Rule
	for _, line := range r.take(n) {
		x, fault := parse.Rule(line)
		if again, _ := print.Rule(x); fault != (api.Fault{}) || again != line {
			r.t.Fatalf("%q is no rule: %v", line, fault)
		}
		out = append(out, x)
	}
	return out
}

func (r *reader) query(title string) api.Atom {
	r.t.Helper()
	line, found := strings.CutPrefix(r.take(1)[0], title)
	q, fault := parse.Query(line)
	if again, _ := print.Query(q); !found || fault != (api.Fault{}) || again != line {
		r.t.Fatalf("%q is no query: %v", line, fault)
	}
	return q
}

// sections reads an explanation back, and asks that nothing else stands there.
func sections(t *testing.T, lines []string) tale {
	t.Helper()
	for _, line := range lines {
		if strings.Contains(line, "\n") {
			t.Fatalf("%q has a byte 10", line)
		}
	}
	r, n := &reader{t, lines}, 0
	var out tale
	r.counts("# ahead: %d rules", &n)
	out.ahead = r.rules(n)
	r.counts("# plain: %d rules", &n)
	out.plain = r.rules(n)
	r.counts("# pruned: %d rules", &n)
	out.pruned = r.rules(n)
	r.counts("# adorned: %d rules, %d pairs", &n, &out.pairs)
	out.adorned = r.rules(n)
	out.adornedQuery = r.query("# adorned query: ")
	seeds := 0
	r.counts("# magic: %d rules, %d seeds", &n, &seeds)
	out.magic = r.rules(n)
	for _, line := range r.take(seeds) {
		out.seeds = append(out.seeds, facts(t, line)...)
	}
	out.magicQuery = r.query("# magic query: ")
	if len(r.lines) > 0 || len(out.seeds) != seeds {
		t.Fatalf("%q stands behind all, %d seeds", r.lines, len(out.seeds))
	}
	return out
}

func explained(t *testing.T, p api.Program, q api.Atom) tale {
	t.Helper()
	a, _, c := written(p, nil, q)
	lines, r := engine.Explain(a, c)
	if r != fine() {
		t.Fatalf("Explain(%q, %q): %v", a, c, r)
	}
	return sections(t, lines)
}

func runOf(t *testing.T, rules []api.Rule, l ...[]api.Fact) []api.Fact {
	t.Helper()
	all, _, err := semi.Run(rules, slices.Concat(l...))
	if err != api.OK {
		t.Fatalf("Run(%s, ..): %d", brief(rules), err)
	}
	return all
}

// P27.6: whatever facts there are: what each pass leaves has the same answers over what is worked out ahead.
func TestWhatIsToldHolds(t *testing.T) {
	d := dice(11)
	some, shrunk, asked := 0, 0, 0
	for range 1200 {
		p, _ := d.fitting(9, 0)
		q := d.query(p)
		if _, r := slowSolve(p, nil, q, api.WayModel); r != fine() {
			continue
		}
		x := explained(t, p, q)
		for range 4 {
			l := d.facts(16)
			tuples, r := engine.Solve(p, l, q, api.WayModel)
			if r != fine() {
				continue
			}
			want := showTuples(tuples)
			m, err := model.Model(api.Program{Rules: x.ahead}, l)
			if err != api.OK {
				t.Fatalf("Model(%s, ..): %d", brief(x.ahead), err)
			}
			pruned := showTuples(model.Answers(q, runOf(t, x.pruned, m)))
			adorned := showTuples(model.Answers(x.adornedQuery, runOf(t, x.adorned, m)))
			run := runOf(t, x.magic, m, x.seeds)
			magic := showTuples(model.Answers(x.magicQuery, run))
			if pruned != want || adorned != want || magic != want {
				a, b, c := written(p, l, q)
				t.Fatalf("%s\n%s\n%s: want %s; pruned %s, adorned %s, magic %s", a, b, c, want, pruned, adorned, magic)
			}
			if len(tuples) > 0 {
				some++
			}
			if len(x.pruned) < len(x.plain) {
				shrunk++
			}
			if len(x.seeds) > 0 && len(tuples) > 0 {
				asked++
			}
		}
	}
	if some < 1000 || shrunk < 1500 || asked < 500 {
		t.Errorf("%d with answers, %d with pruned rules, %d with seeds and answers", some, shrunk, asked)
	}
}

// P27.6: so with an example by hand: what is ahead is told too, and each pass stands by itself.
func TestWhatIsToldOfAnExample(t *testing.T) {
	p := program(t, "n(X, count()) :- e(X, Y). big(X) :- n(X, N), N > 1. t(X, Y) :- e(X, Y), big(X). t(X, Z) :- t(X, Y), t(Y, Z). t(X, Y) :- e(X, Y), big(X), e(Y, _). far(X) :- t(X, _), not big(X).")
	l := facts(t, "e(1, 2). e(1, 3). e(2, 1). e(2, 4). e(4, 5). t(5, 1). t(9, 9).")
	x := explained(t, p, query(t, "t(2, X)?"))
	m, _ := model.Model(api.Program{Rules: x.ahead}, l)
	run := runOf(t, x.magic, m, x.seeds)
	if got := showTuples(model.Answers(x.magicQuery, run)); got != "(2, 1) (2, 2) (2, 3) (2, 4)" {
		t.Errorf("the answers are %s", got)
	}
	if len(x.ahead) != 2 || len(x.plain) != 4 || len(x.pruned) != 2 || x.pairs != 1 || len(x.seeds) != 1 || slices.ContainsFunc(run, func(f api.Fact) bool { return f.Pred == "q_m_bf_t" && f.Args[0].Num > 4 }) {
		t.Errorf("%d ahead, %d plain, %d pruned, %d pairs, seeds %s, run %s", len(x.ahead), len(x.plain), len(x.pruned), x.pairs, showFacts(x.seeds), showFacts(run))
	}
}

// mayBe is P27.7's first sentence: is there nothing for which a program and facts are refused?
func mayBe(p api.Program, l []api.Fact) bool {
	input := check.Input(p, l, api.Atom{Pred: "q_"})
	if check.Job(p.Rules, l) != api.OK || input.Part == api.PartProgram || input.Part == api.PartFacts {
		return false
	}
	columns, _, err := types.Infer(p)
	if err != api.OK || !types.Fits(l, columns) {
		return false
	}
	_, _, err = depend.Levels(p)
	return err == api.OK
}

// P27.7: what is taken may be worked with; it is taken with fewer facts too.
func TestWhatFits(t *testing.T) {
	d := dice(12)
	taken, left := 0, 0
	for range 8000 {
		p, l := d.program(7), d.facts(12)
		fits := engine.Fit(p, l) == fine()
		if fits != mayBe(p, l) {
			t.Fatalf("Fit(%s, %s) = %v", brief(p), showFacts(l), engine.Fit(p, l))
		}
		if !fits {
			left++
			continue
		}
		taken++
		if _, err := model.Model(p, l); err != api.OK {
			t.Fatalf("Model(%s, %s): %d", brief(p), showFacts(l), err)
		}
		fewer := slices.DeleteFunc(slices.Clone(l), func(api.Fact) bool { return d.below(3) == 0 })
		for _, l := range [][]api.Fact{fewer, nil} {
			if r := engine.Fit(p, l); r != fine() {
				t.Fatalf("Fit(%s, %s) = %v with fewer facts", brief(p), showFacts(l), r)
			}
		}
	}
	if taken < 2000 || left < 700 {
		t.Errorf("%d taken, %d refused", taken, left)
	}
}

// P27.7, P0.5: texts are answered as what was printed.
func TestPrintedTexts(t *testing.T) {
	d := dice(13)
	some, refused := 0, 0
	for range 3000 {
		p, l := d.program(7), d.facts(12)
		q, w := d.query(p), ways()[d.below(4)]
		if d.below(20) == 0 {
			w = noWays()[d.below(5)]
		}
		tuples, want := engine.Solve(p, l, q, w)
		a, b, c := written(p, l, q)
		lines, r := engine.Answer(a, b, c, w)
		if r != want || len(lines) != len(tuples) {
			t.Fatalf("Answer(%q, %q, %q, %d) = %s, %v; want %s, %v", a, b, c, w, lines, r, showTuples(tuples), want)
		}
		for i, line := range lines {
			read, fault := parse.Facts(line)
			if fault != (api.Fault{}) || len(read) != 1 || read[0].Pred != q.Pred || !slices.Equal(read[0].Args, tuples[i]) {
				t.Fatalf("the line %q of %s", line, showTuple(tuples[i]))
			}
			some++
		}
		if r != fine() {
			refused++
		}
	}
	if some < 600 || refused < 400 {
		t.Errorf("%d lines, %d refused", some, refused)
	}
}

// shuffled are a list's items in another order, some of them twice.
func shuffled[T any](d *dice, l []T) []T {
	out := slices.Clone(l)
	for _, x := range l {
		if d.below(3) == 0 {
			out = append(out, x)
		}
	}
	for i := range out {
		j := d.below(i + 1)
		out[i], out[j] = out[j], out[i]
	}
	return out
}

// P0.4: rules and facts in any order, and twice, have the same answers; and they are taken, or not.
func TestOrderIsNothing(t *testing.T) {
	d := dice(14)
	some := 0
	for range 1500 {
		p, l := d.fitting(8, 14)
		q := d.query(p)
		want, x := engine.Solve(p, l, q, api.WayModel)
		other := api.Program{Rules: shuffled(&d, p.Rules)}
		for _, w := range ways() {
			if got, r := engine.Solve(other, shuffled(&d, l), q, w); r != x || showTuples(got) != showTuples(want) {
				t.Fatalf("Solve by %d in another order of %s, %s, %s: %s, %v; want %s, %v", w, brief(p), showFacts(l), brief(q), showTuples(got), r, showTuples(want), x)
			}
		}
		if len(want) > 0 {
			some++
		}
	}
	if some < 300 {
		t.Errorf("%d with answers", some)
	}
}

// R5: what a call answers hangs on nothing but what it was given, whoever calls beside it, and what it was given stays as it is.
func TestCallsSideBySide(t *testing.T) {
	const p = "anc(X, Y) :- par(X, Y). anc(X, Y) :- par(X, Z), anc(Z, Y). n(count()) :- anc(X, Y). big(X) :- n(X), not anc(X, _)."
	rules, l, q := program(t, p), facts(t, "par(1, 2). par(2, 3). par(3, 4). par(4, 2)."), query(t, "anc(X, X)?")
	tale, _ := engine.Explain(p, "anc(1, X)?")
	var all sync.WaitGroup
	for i := range 32 {
		all.Add(1)
		go func() {
			defer all.Done()
			for range 10 {
				if got, r := engine.Solve(rules, l, q, ways()[i%4]); r != fine() || showTuples(got) != "(2, 2) (3, 3) (4, 4)" {
					t.Errorf("Solve by %d: %s, %v", i%4, showTuples(got), r)
				}
				if got, r := engine.Answer(p, "par(1, 2). par(2, 3).", "big(X)?", ways()[i%4]); r != fine() || !slices.Equal(got, []string{"big(3)."}) {
					t.Errorf("Answer by %d: %s, %v", i%4, got, r)
				}
				if got, r := engine.Explain(p, "anc(1, X)?"); r != fine() || !slices.Equal(got, tale) {
					t.Errorf("Explain: %s, %v", got, r)
				}
				if r := engine.Fit(rules, l); r != fine() {
					t.Errorf("Fit: %v", r)
				}
			}
		}()
	}
	all.Wait()
}
