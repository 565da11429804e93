package types_test

import (
	"maps"
	"slices"
	"strconv"
	"testing"

	"pedigree/api"
	"pedigree/check"
	"pedigree/term"
	"pedigree/types"
)

// dice answers numbers below n, the same ones in every run.
type dice uint64

func (d *dice) below(n int) int {
	*d = *d*6364136223846793005 + 1442695040888963407
	return int(uint64(*d)>>33) % n
}

func pick[T any](d *dice, l ...T) T { return l[d.below(len(l))] }

// mixed answers the list in any order.
func mixed[T any](d *dice, l []T) []T {
	out := slices.Clone(l)
	for i := range out {
		j := d.below(i + 1)
		out[i], out[j] = out[j], out[i]
	}
	return out
}

// shapes are predicates with the types that their columns mostly have.
func shapes() []api.Sig { return sigsOf("p(n) q(nt) r(t?n) s() t(??) u(?)") }

// anyType mostly is the one that is asked for.
func anyType(d *dice, t api.Type) api.Type {
	if d.below(25) == 0 {
		return api.Type(d.below(3))
	}
	return t
}

// anyNamed is a variable or a value of a type.
func anyNamed(d *dice, t api.Type) api.Term {
	switch anyType(d, t) {
	case api.TyNum:
		return pick(d, v("N"), v("N"), v("M"), v("M"), n(0), n(1), n(2))
	case api.TyText:
		return pick(d, v("S"), v("S"), v("T"), v("T"), s(""), s("a"), s("bc"))
	}
	return pick(d, v("A"), v("B"), v("C"))
}

func anyTerm(d *dice, t api.Type) api.Term {
	if d.below(6) == 0 {
		return v("_")
	}
	return anyNamed(d, t)
}

func anyAtom(d *dice) api.Atom {
	shape := pick(d, shapes()...)
	a := atom(shape.Pred)
	for _, t := range shape.Cols {
		a.Args = append(a.Args, anyTerm(d, t))
	}
	return a
}

func anyExpr(d *dice, t api.Type, depth int) api.Expr {
	t = anyType(d, t)
	if depth == 0 || d.below(2) == 0 || t == api.TyAny {
		return ex(anyNamed(d, t))
	}
	var fit []operation
	for _, o := range operations() {
		if typesOf(o.itself)[0] == t {
			fit = append(fit, o)
		}
	}
	o := pick(d, fit...)
	e := op(o.op)
	for range o.kids {
		e.Kids = append(e.Kids, anyExpr(d, typesOf(o.kid)[0], depth-1))
	}
	return e
}

func anyLiteral(d *dice) api.Literal {
	switch d.below(5) {
	case 0:
		return api.Literal{Kind: api.LNot, Atom: anyAtom(d)}
	case 1, 2:
		t := api.Type(d.below(3))
		return cmp(anyExpr(d, t, 3), pick(d, api.RelEq, api.Rel(1+d.below(6))), anyExpr(d, t, 3))
	}
	return api.Literal{Kind: api.LPos, Atom: anyAtom(d)}
}

func anyArg(d *dice, t api.Type) api.Arg {
	x := anyNamed(d, t)
	switch d.below(8) {
	case 0:
		return api.Arg{Agg: api.AggCount}
	case 1, 2, 3:
		if x.Var != "" {
			return api.Arg{Agg: pick(d, api.AggSum, api.AggMin, api.AggMax), Term: x}
		}
	}
	return api.Arg{Term: x}
}

// limitedBy is an atom that limits a variable, one that fits its letter.
func limitedBy(name string) api.Literal {
	switch name {
	case "N", "M":
		return pos("p", v(name))
	case "S", "T":
		return pos("q", v("_"), v(name))
	}
	return pos("u", v(name))
}

// anyRule may be used; its types mostly fit.
func anyRule(d *dice) api.Rule {
	shape := pick(d, shapes()...)
	r := rule(shape.Pred, nil)
	for _, t := range shape.Cols {
		r.Head = append(r.Head, anyArg(d, t))
	}
	for range d.below(4) {
		r.Body = append(r.Body, anyLiteral(d))
	}
	for _, name := range term.RuleVars(r) {
		if !slices.Contains(check.Limited(r.Body), name) {
			r.Body = append(r.Body, limitedBy(name))
		}
	}
	return r
}

func anyRules(d *dice) []api.Rule {
	var out []api.Rule
	for range d.below(9) {
		out = append(out, anyRule(d))
	}
	return out
}

// places are what the chapter's words say of rules: which places are of one class, and which types are said.
type places struct {
	same [][2]string
	said map[string][]api.Type
}

func (p *places) join(a, b string) { p.same = append(p.same, [2]string{a, b}) }

func (p *places) say(a string, t api.Type) { p.said[a] = append(p.said[a], t) }

func columnPlace(pred string, at int) string { return "column " + pred + " " + strconv.Itoa(at) }

func varPlace(number int, name string) string {
	return "variable " + name + " of " + strconv.Itoa(number)
}

// term takes a term that stands at a place of its own.
func (p *places) term(number int, at string, t api.Term) {
	switch {
	case t.Var != "" && t.Var != "_":
		p.join(at, varPlace(number, t.Var))
	case t.Val.Kind == api.KNum:
		p.say(at, api.TyNum)
	case t.Val.Kind == api.KText:
		p.say(at, api.TyText)
	}
}

func (p *places) expr(number int, at string, e api.Expr) {
	i := slices.IndexFunc(operations(), func(o operation) bool { return o.op == e.Op })
	if i < 0 {
		p.term(number, at, e.Term)
		return
	}
	p.say(at, typesOf(operations()[i].itself)[0])
	for k, kid := range e.Kids {
		place := at + " kid " + strconv.Itoa(k)
		p.say(place, typesOf(operations()[i].kid)[0])
		p.expr(number, place, kid)
	}
}

func (p *places) rule(number int, r api.Rule) {
	for i, a := range r.Head {
		column, at := columnPlace(r.Pred, i), "head "+strconv.Itoa(number)+" "+strconv.Itoa(i)
		p.term(number, at, a.Term)
		if a.Agg == api.AggCount || a.Agg == api.AggSum {
			p.say(column, api.TyNum)
		} else {
			p.join(column, at)
		}
		if a.Agg == api.AggSum {
			p.say(varPlace(number, a.Term.Var), api.TyNum)
		}
	}
	for i, l := range r.Body {
		at := "literal " + strconv.Itoa(number) + " " + strconv.Itoa(i)
		if l.Kind == api.LCmp {
			p.expr(number, at+" left", l.Left)
			p.expr(number, at+" right", l.Right)
			p.join(at+" left", at+" right")
		}
		for k, x := range l.Atom.Args {
			place := at + " term " + strconv.Itoa(k)
			p.term(number, place, x)
			p.join(place, columnPlace(l.Atom.Pred, k))
		}
	}
}

// spread says what is said of a place of all places of its class, until nothing is new; it tells whether one is torn.
func (p *places) spread() bool {
	for more := true; more; {
		more = false
		for _, pair := range p.same {
			for _, way := range [][2]string{pair, {pair[1], pair[0]}} {
				for _, t := range p.said[way[0]] {
					if !slices.Contains(p.said[way[1]], t) {
						p.say(way[1], t)
						more = true
					}
				}
			}
		}
	}
	for _, l := range p.said {
		if slices.Contains(l, api.TyNum) && slices.Contains(l, api.TyText) {
			return true
		}
	}
	return false
}

func (p *places) typeOf(place string) api.Type {
	if l := p.said[place]; len(l) > 0 {
		return l[0]
	}
	return api.TyAny
}

func readRules(l []api.Rule) *places {
	p := &places{said: map[string][]api.Type{}}
	for i, r := range l {
		p.rule(i, r)
	}
	return p
}

// predsOf are all predicates, in order, as often as they stand there.
func predsOf(l ...api.Rule) []api.Pred {
	var out []api.Pred
	for _, r := range l {
		out = append(out, api.Pred{Name: r.Pred, Arity: len(r.Head)})
		for _, x := range r.Body {
			if x.Kind == api.LPos || x.Kind == api.LNot {
				out = append(out, api.Pred{Name: x.Atom.Pred, Arity: len(x.Atom.Args)})
			}
		}
	}
	return out
}

// twoArities: does one name stand there with two numbers of columns?
func twoArities(l ...api.Pred) bool {
	for i, a := range l {
		if slices.ContainsFunc(l[:i], func(b api.Pred) bool { return a.Name == b.Name && a.Arity != b.Arity }) {
			return true
		}
	}
	return false
}

// slowInfer is what P8.1 and P8.2 say, beginning by beginning.
func slowInfer(l []api.Rule) ([]api.Sig, int, api.Errno) {
	for i, r := range l {
		if err := check.Rule(r); err != api.OK {
			return nil, i, err
		}
	}
	for i := range l {
		if twoArities(predsOf(l[:i+1]...)...) {
			return nil, i, api.ErrArity
		}
	}
	for i := range l {
		if readRules(l[:i+1]).spread() {
			return nil, i, api.ErrType
		}
	}
	all := readRules(l)
	all.spread()
	seen := map[string]api.Sig{}
	for _, p := range predsOf(l...) {
		sig := api.Sig{Pred: p.Name}
		for i := range p.Arity {
			sig.Cols = append(sig.Cols, all.typeOf(columnPlace(p.Name, i)))
		}
		seen[p.Name] = sig
	}
	var out []api.Sig
	for _, name := range slices.Sorted(maps.Keys(seen)) {
		out = append(out, seen[name])
	}
	return out, 0, api.OK
}

// slowVars is what P8.3 says.
func slowVars(r api.Rule, l []api.Sig) ([]api.Type, api.Errno) {
	if err := check.Rule(r); err != api.OK {
		return nil, err
	}
	inRule := predsOf(r)
	p := readRules([]api.Rule{r})
	unlike := twoArities(inRule...)
	for _, x := range l {
		unlike = unlike || slices.ContainsFunc(inRule, func(y api.Pred) bool { return y.Name == x.Pred && y.Arity != len(x.Cols) })
		for i, t := range x.Cols {
			if t < 0 || t > 2 {
				return nil, api.ErrArg
			}
			if t != api.TyAny {
				p.say(columnPlace(x.Pred, i), t)
			}
		}
	}
	if unlike {
		return nil, api.ErrArity
	}
	if p.spread() {
		return nil, api.ErrType
	}
	var out []api.Type
	for _, name := range term.RuleVars(r) {
		out = append(out, p.typeOf(varPlace(0, name)))
	}
	return out, api.OK
}

// slowFits is what P8.4 says.
func slowFits(l []api.Fact, sigs []api.Sig) bool {
	for _, f := range l {
		for _, w := range f.Args {
			if !(w.Kind == api.KNum && w.Text == "" || w.Kind == api.KText && w.Num == 0 && len(w.Text) <= 200) {
				return false
			}
		}
		for _, x := range sigs {
			if x.Pred != f.Pred {
				continue
			}
			if len(x.Cols) != len(f.Args) {
				return false
			}
			for i, t := range x.Cols {
				if !(t == api.TyAny || t == api.TyNum && f.Args[i].Kind == api.KNum || t == api.TyText && f.Args[i].Kind == api.KText) {
					return false
				}
			}
		}
	}
	return true
}

// infer answers what the slow way says too.
func infer(t *testing.T, l []api.Rule) ([]api.Sig, int, api.Errno) {
	t.Helper()
	got, at, err := types.Infer(program(l...))
	want, wantAt, code := slowInfer(l)
	if told(got) != told(want) || at != wantAt || err != code {
		t.Fatalf("Infer(%s) = %s, %d, %d; want %s, %d, %d", brief(l), showSigs(got), at, err, showSigs(want), wantAt, code)
	}
	return got, at, err
}

func vars(t *testing.T, r api.Rule, l []api.Sig) ([]api.Type, api.Errno) {
	t.Helper()
	got, err := types.Vars(r, l)
	if want, code := slowVars(r, l); told(got) != told(want) || err != code {
		t.Fatalf("Vars(%s, %s) = %s, %d; want %s, %d", brief(r), showSigs(l), lettersOf(got), err, lettersOf(want), code)
	}
	return got, err
}

func columnType(l []api.Sig, pred string, at int) api.Type {
	i := slices.IndexFunc(l, func(x api.Sig) bool { return x.Pred == pred })
	return l[i].Cols[at]
}

// stays: is what the first Sigs say of a column said by the second ones too?
func stays(first, second []api.Sig) bool {
	for _, x := range first {
		for i, t := range x.Cols {
			if t != api.TyAny && columnType(second, x.Pred, i) != t {
				return false
			}
		}
	}
	return true
}

// P8.1, P8.2, P8.5, P0.4: any programs: as the slow way says, beginning by beginning; their order and doubles.
func TestInferLaws(t *testing.T) {
	d := dice(2)
	count := map[api.Errno]int{}
	for range 4000 {
		l := anyRules(&d)
		sigs, at, err := infer(t, l)
		count[err]++
		for range 2 {
			other := mixed(&d, slices.Concat(l, l[:d.below(len(l)+1)]))
			if again, _, code := types.Infer(program(other...)); told(again) != told(sigs) || code != err {
				t.Fatalf("Infer(%s) = %s, %d; in another order %s, %d", brief(l), showSigs(sigs), err, showSigs(again), code)
			}
		}
		if err == api.ErrType {
			l = l[:at]
			sigs, _, _ = infer(t, l)
		}
		for i := range l {
			ahead, at, code := types.Infer(program(l[:i]...))
			if at != 0 || code != api.OK || !stays(ahead, sigs) {
				t.Fatalf("Infer(%s) = %s, but of the first %d: %s, %d", brief(l), showSigs(sigs), i, showSigs(ahead), code)
			}
		}
	}
	if count[api.OK] < 800 || count[api.ErrType] < 800 || len(count) != 2 {
		t.Errorf("of 4000 programs: %v", count)
	}
}

// standsIn are the columns in which a variable of a rule stands.
func standsIn(r api.Rule, name string, sigs []api.Sig) []api.Type {
	var out []api.Type
	for i, a := range r.Head {
		if a.Term.Var == name {
			out = append(out, columnType(sigs, r.Pred, i))
		}
	}
	for _, l := range r.Body {
		for i, x := range l.Atom.Args {
			if x.Var == name {
				out = append(out, columnType(sigs, l.Atom.Pred, i))
			}
		}
	}
	return out
}

// P8.3, P8.5: with a program's Sigs no rule of it has an error, and a variable's type is that of every column in which it stands.
func TestVarsOfAProgram(t *testing.T) {
	d := dice(3)
	for tried := 0; tried < 1500; {
		l := anyRules(&d)
		sigs, _, err := types.Infer(program(l...))
		if err != api.OK {
			continue
		}
		tried++
		for _, r := range l {
			got, err := vars(t, r, mixed(&d, sigs))
			if err != api.OK {
				t.Fatalf("Vars(%s, %s) = %d", brief(r), showSigs(sigs), err)
			}
			for i, name := range term.RuleVars(r) {
				if slices.ContainsFunc(standsIn(r, name, sigs), func(x api.Type) bool { return x != got[i] }) {
					t.Fatalf("Vars(%s, %s) = %s, %s stands in other columns", brief(r), showSigs(sigs), lettersOf(got), name)
				}
			}
		}
	}
}

// anySigs are of the same names as rules have; some are wrong.
func anySigs(d *dice) []api.Sig {
	var out []api.Sig
	for range d.below(5) {
		shape := pick(d, append(shapes(), sigsOf("z(nt) z(n?) z(?)")...)...)
		for i, t := range shape.Cols {
			shape.Cols[i] = pick(d, anyType(d, t), api.TyAny)
		}
		if d.below(15) == 0 {
			shape.Cols = append(shape.Cols, api.Type(d.below(4)))
		}
		if d.below(60) == 0 && len(shape.Cols) > 0 {
			shape.Cols[0] = api.Type(d.below(256) - 128)
		}
		out = append(out, shape)
	}
	return out
}

// P8.3: any rules with any Sigs; the Sigs' order is nothing.
func TestVarsLaws(t *testing.T) {
	d := dice(4)
	count := map[api.Errno]int{}
	for range 15000 {
		r, l := anyRule(&d), anySigs(&d)
		got, err := vars(t, r, l)
		count[err]++
		if other, code := types.Vars(r, mixed(&d, slices.Concat(l, l))); told(other) != told(got) || code != err {
			t.Fatalf("Vars(%s, %s) = %s, %d; in another order %s, %d", brief(r), showSigs(l), lettersOf(got), err, lettersOf(other), code)
		}
	}
	for _, code := range []api.Errno{api.OK, api.ErrArg, api.ErrArity, api.ErrType} {
		if count[code] < 200 {
			t.Errorf("only %d rules with the error %d", count[code], code)
		}
	}
}
