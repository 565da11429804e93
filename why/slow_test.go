package why_test

import (
	"slices"
	"testing"

	"pedigree/api"
	"pedigree/group"
	"pedigree/join"
	"pedigree/model"
	"pedigree/term"
	"pedigree/value"
)

// What stands here is written along the chapter, word by word, with lists alone; model, solutions and groups are those of the layers below.

// slow is a program with given facts and their model.
type slow struct {
	p       api.Program
	given   []api.Fact
	model   []api.Fact
	ways    [][]slowWay // by the rules' numbers
	heights []int       // by the places in the model
}

// slowWay is a solution of a rule's body, or a group of them, with the fact that it gives.
type slowWay struct {
	fact      api.Fact
	binds     []api.Bind
	solutions [][]api.Bind
}

func newSlow(t *testing.T, p api.Program, l []api.Fact) *slow {
	t.Helper()
	m, err := model.Model(p, l)
	if err != api.OK {
		t.Fatalf("Model(%s, %s): %d", showProgram(p), show(l...), err)
	}
	s := &slow{p: p, given: l, model: m}
	for _, r := range p.Rules {
		s.ways = append(s.ways, s.waysOf(t, r))
	}
	s.measure(t)
	return s
}

func isPlain(r api.Rule) bool {
	return !slices.ContainsFunc(r.Head, func(a api.Arg) bool { return a.Agg != api.AggNone })
}

// valueOf is what a term that is no blank is.
func valueOf(x api.Term, binds []api.Bind) api.Value {
	at := slices.IndexFunc(binds, func(b api.Bind) bool { return b.Var == x.Var })
	if at < 0 {
		return x.Val
	}
	return binds[at].Val
}

func (s *slow) waysOf(t *testing.T, r api.Rule) []slowWay {
	t.Helper()
	solutions, err := join.Solutions(r.Body, s.model)
	if err != api.OK {
		t.Fatalf("Solutions of %s: %d", showProgram(api.Program{Rules: []api.Rule{r}}), err)
	}
	var out []slowWay
	if isPlain(r) {
		for _, x := range solutions {
			f := api.Fact{Pred: r.Pred}
			for _, a := range r.Head {
				f.Args = append(f.Args, valueOf(a.Term, x))
			}
			out = append(out, slowWay{f, x, [][]api.Bind{x}})
		}
		return out
	}
	facts, err := group.Gives(r, s.model)
	if err != api.OK {
		t.Fatalf("Gives of %s: %d", showProgram(api.Program{Rules: []api.Rule{r}}), err)
	}
	for _, f := range facts {
		out = append(out, groupOf(r, f, solutions))
	}
	return out
}

// groupOf is the one group of a rule that gives a fact.
func groupOf(r api.Rule, f api.Fact, solutions [][]api.Bind) slowWay {
	out := slowWay{fact: f}
	for i, a := range r.Head {
		b := bind(a.Term.Var, f.Args[i])
		if a.Agg == api.AggNone && a.Term.Var != "" && !slices.Contains(out.binds, b) {
			out.binds = append(out.binds, b)
		}
	}
	for _, x := range solutions {
		agrees := true
		for _, b := range out.binds {
			agrees = agrees && slices.Contains(x, b)
		}
		if agrees {
			out.solutions = append(out.solutions, x)
		}
	}
	return out
}

// under is an atom with what its variables are.
func under(a api.Atom, solution []api.Bind) api.Atom {
	out := api.Atom{Pred: a.Pred}
	for _, x := range a.Args {
		if x.Var != "_" {
			x = api.Term{Val: valueOf(x, solution)}
		}
		out.Args = append(out.Args, x)
	}
	return out
}

// needed is the height of the kid that is needed for a literal; 0: there is none so far.
func (s *slow) needed(l api.Literal, solution []api.Bind) int {
	if l.Kind != api.LPos {
		return 1
	}
	least := 0
	for i, f := range s.model {
		if _, ok := term.Match(under(l.Atom, solution), f); ok && s.heights[i] > 0 && (least == 0 || s.heights[i] < least) {
			least = s.heights[i]
		}
	}
	return least
}

// reach is one more than the greatest height of the kids that are needed; 0: there are not all of them so far.
func (s *slow) reach(r api.Rule, w slowWay) int {
	out := 1
	for _, x := range w.solutions {
		for _, l := range r.Body {
			n := s.needed(l, x)
			if n == 0 {
				return 0
			}
			out = max(out, n+1)
		}
	}
	return out
}

func (s *slow) isGiven(f api.Fact) bool {
	return slices.ContainsFunc(s.given, func(x api.Fact) bool { return value.CompareFacts(x, f) == 0 })
}

func (s *slow) place(f api.Fact) int {
	return slices.IndexFunc(s.model, func(x api.Fact) bool { return value.CompareFacts(x, f) == 0 })
}

// measure finds the facts of height 1, 2 and so on.
func (s *slow) measure(t *testing.T) {
	t.Helper()
	s.heights = make([]int, len(s.model))
	for n := 1; slices.Contains(s.heights, 0); n++ {
		now := slices.Clone(s.heights)
		for i, f := range s.model {
			if n == 1 && s.isGiven(f) {
				now[i] = 1
			}
		}
		for i, r := range s.p.Rules {
			for _, w := range s.ways[i] {
				if at := s.place(w.fact); now[at] == 0 && s.reach(r, w) == n {
					now[at] = n
				}
			}
		}
		if n > len(s.model)+1 {
			t.Fatalf("%s, %s: no heights for all", showProgram(s.p), show(s.given...))
		}
		s.heights = now
	}
}

// told is the proof of P23.2.
func (s *slow) told(f api.Fact) api.Proof {
	if s.isGiven(f) {
		return given(f)
	}
	height := s.heights[s.place(f)]
	for i, r := range s.p.Rules {
		for _, w := range s.ways[i] {
			if value.CompareFacts(w.fact, f) != 0 || s.reach(r, w) > height {
				continue
			}
			out := api.Proof{Kind: api.ProofRule, Fact: f, Rule: i, Binds: w.binds}
			for _, x := range w.solutions {
				for _, l := range r.Body {
					out.Kids = append(out.Kids, s.kid(l, x, height))
				}
			}
			return out
		}
	}
	return api.Proof{}
}

func (s *slow) kid(l api.Literal, solution []api.Bind, height int) api.Proof {
	if l.Kind != api.LPos {
		return leaf(l, solution)
	}
	for i, f := range s.model {
		if _, ok := term.Match(under(l.Atom, solution), f); ok && s.heights[i] < height {
			return s.told(f)
		}
	}
	return api.Proof{}
}

// leaf is the kid for a literal that is no LPos.
func leaf(l api.Literal, solution []api.Bind) api.Proof {
	if l.Kind == api.LCmp {
		return api.Proof{Kind: api.ProofTrue}
	}
	out := api.Proof{Kind: api.ProofAbsent, Fact: api.Fact{Pred: l.Atom.Pred}}
	for _, x := range under(l.Atom, solution).Args {
		out.Fact.Args = append(out.Fact.Args, x.Val)
	}
	return out
}

// isProof: 'A proof', by its three points.
func (s *slow) isProof(x api.Proof) bool {
	if x.Kind == api.ProofGiven {
		return s.isGiven(x.Fact) && x.Rule == 0 && len(x.Binds) == 0 && len(x.Kids) == 0
	}
	if x.Kind != api.ProofRule || x.Rule < 0 || x.Rule >= len(s.p.Rules) {
		return false
	}
	r := s.p.Rules[x.Rule]
	at := slices.IndexFunc(s.ways[x.Rule], func(w slowWay) bool {
		return slices.Equal(w.binds, x.Binds) && value.CompareFacts(w.fact, x.Fact) == 0
	})
	if at < 0 || len(x.Kids) != len(s.ways[x.Rule][at].solutions)*len(r.Body) {
		return false
	}
	kids := x.Kids
	for _, solution := range s.ways[x.Rule][at].solutions {
		for _, l := range r.Body {
			if !s.isKid(kids[0], l, solution) {
				return false
			}
			kids = kids[1:]
		}
	}
	return true
}

func (s *slow) isKid(x api.Proof, l api.Literal, solution []api.Bind) bool {
	if l.Kind != api.LPos {
		return isSame(x, leaf(l, solution))
	}
	_, ok := term.Match(under(l.Atom, solution), x.Fact)
	return ok && s.isProof(x)
}
