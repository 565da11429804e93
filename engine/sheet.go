package engine

import (
	"strconv"
	"strings"

	"pedigree/api"
	"pedigree/print"
)

// sheet gathers lines; the first error is kept, and then nothing is told.
type sheet struct {
	lines []string
	err   api.Errno
}

// put takes what a call of print tells.
func (s *sheet) put(text string, err api.Errno) {
	if s.err == api.OK {
		s.err = err
	}
	for line := range strings.Lines(text) {
		s.lines = append(s.lines, strings.TrimSuffix(line, "\n"))
	}
}

func (s *sheet) line(text string) { s.put(text, api.OK) }

func (s *sheet) rules(l []api.Rule) { s.put(print.Program(api.Program{Rules: l})) }

func (s *sheet) facts(l []api.Fact) { s.put(print.Facts(l)) }

// pass writes what a pass tells: its rules, and whatever it can tell beside them.
func (s *sheet) pass(x pass) {
	title, own := "# "+x.name(), x.rules()
	first := title + ": " + counted(len(own), "rules")
	if y, ok := x.(paired); ok {
		first += ", " + counted(y.pairs(), "pairs")
	}
	var seeds []api.Fact
	if y, ok := x.(seeded); ok {
		seeds = y.seeds()
		first += ", " + counted(len(seeds), "seeds")
	}
	s.line(first)
	s.rules(own)
	s.facts(seeds)
	if y, ok := x.(asking); ok {
		text, err := print.Query(y.query())
		s.put(title+" query: "+text, err)
	}
}

func (s *sheet) told() ([]string, api.Refusal) {
	if s.err != api.OK {
		return nil, api.Refusal{Code: s.err}
	}
	return s.lines, api.Refusal{}
}

func counted(n int, what string) string { return strconv.Itoa(n) + " " + what }

func factsOf(pred string, tuples [][]api.Value) []api.Fact {
	out := make([]api.Fact, len(tuples))
	for i, values := range tuples {
		out[i] = api.Fact{Pred: pred, Args: values}
	}
	return out
}
