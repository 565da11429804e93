package why

import (
	"strconv"
	"strings"

	"pedigree/api"
	"pedigree/print"
	"pedigree/term"
	"pedigree/value"
)

// blank is the Var of a blank.
const blank = "_"

// writer gathers the lines of a proof, up to the first part that has none.
type writer struct {
	lines []string
	err   api.Errno
}

func (w *writer) visit(x *api.Proof, around int) bool {
	line, err := lineOf(x)
	if err != api.OK {
		w.err = err
		return false
	}
	w.lines = append(w.lines, strings.Repeat("  ", around)+line)
	return true
}

// lineOf answers a part's line, without the blanks ahead of it.
func lineOf(x *api.Proof) (string, api.Errno) {
	switch x.Kind {
	case api.ProofGiven:
		return between("", atomOf(x.Fact), " is given")
	case api.ProofRule:
		return byRule(x)
	case api.ProofAbsent:
		return between("not ", withBlanks(atomOf(x.Fact)), "")
	case api.ProofTrue:
		return "true", api.OK
	}
	return "", api.ErrArg
}

// between answers an atom's text between two others.
func between(ahead string, a api.Atom, behind string) (string, api.Errno) {
	s, err := print.Atom(a)
	if err != api.OK {
		return "", err
	}
	return ahead + s + behind, api.OK
}

func atomOf(f api.Fact) api.Atom {
	a := api.Atom{Pred: f.Pred}
	for _, v := range f.Args {
		a.Args = append(a.Args, api.Term{Val: v})
	}
	return a
}

// withBlanks puts a blank where a zero Value stands.
func withBlanks(a api.Atom) api.Atom {
	for i, t := range a.Args {
		if t == (api.Term{}) {
			a.Args[i].Var = blank
		}
	}
	return a
}

func byRule(x *api.Proof) (string, api.Errno) {
	line, err := between("", atomOf(x.Fact), " by rule "+strconv.Itoa(x.Rule))
	var binds []string
	for i := 0; i < len(x.Binds) && err == api.OK; i++ {
		var s string
		s, err = bindOf(x.Binds[i])
		binds = append(binds, s)
	}
	if err != api.OK {
		return "", err
	}
	if len(binds) > 0 {
		line += " with " + strings.Join(binds, ", ")
	}
	return line, api.OK
}

func bindOf(b api.Bind) (string, api.Errno) {
	// A blank is a term, but no variable.
	if b.Var == blank || term.CheckTerm(api.Term{Var: b.Var}) != api.OK {
		return "", api.ErrTerm
	}
	s, err := value.Show(b.Val)
	if err != api.OK {
		return "", err
	}
	return b.Var + " = " + s, api.OK
}
