package engine_test

import (
	"fmt"
	"strings"

	"pedigree/adorn"
	"pedigree/api"
	"pedigree/check"
	"pedigree/depend"
	"pedigree/magic"
	"pedigree/model"
	"pedigree/parse"
	"pedigree/print"
	"pedigree/subsume"
	"pedigree/types"
)

// What stands here is written along the chapter, word by word.

// slowFit is P27.1.
func slowFit(p api.Program, l []api.Fact) api.Refusal {
	// A query of a name that a user can't have is refused behind everything else, or not at all.
	if r := check.Input(p, l, api.Atom{Pred: "q_"}); r.Part != api.PartQuery && r != fine() {
		return r
	}
	columns, rule, err := types.Infer(p)
	if err == api.ErrType {
		return refusal(api.PartProgram, api.ErrType, rule)
	}
	for i, f := range l {
		if !types.Fits([]api.Fact{f}, columns) {
			return refusal(api.PartFacts, api.ErrType, i)
		}
	}
	if _, rule, err = depend.Levels(p); err != api.OK {
		return refusal(api.PartProgram, err, rule)
	}
	return fine()
}

func isWay(w api.Way) bool {
	return w == api.WayModel || w == api.WayMagic || w == api.WayTable || w == api.WayPar
}

// slowSolve is P27.2.
func slowSolve(p api.Program, l []api.Fact, q api.Atom, w api.Way) ([][]api.Value, api.Refusal) {
	if !isWay(w) {
		return nil, refusal(api.PartNone, api.ErrArg, 0)
	}
	if r := slowFit(p, l); r != fine() {
		return nil, r
	}
	if r := check.Input(p, l, q); r != fine() {
		return nil, r
	}
	m, _ := model.Model(p, l)
	return model.Answers(q, m), fine()
}

// slowLine is a fact's line. (P27.3)
func slowLine(f api.Fact) string {
	s, _ := print.Facts([]api.Fact{f})
	return strings.Replace(s, "\n", "", 1)
}

// slowRead is what the parsers have to say, one behind the other; facts are not asked for, where there are none.
func slowRead(program, facts, query string) (api.Program, []api.Fact, api.Atom, api.Refusal) {
	p, fault := parse.Program(program)
	if fault.Code != api.OK {
		return p, nil, api.Atom{}, refusal(api.PartProgram, fault.Code, fault.At)
	}
	l, fault := parse.Facts(facts)
	if fault.Code != api.OK {
		return p, l, api.Atom{}, refusal(api.PartFacts, fault.Code, fault.At)
	}
	q, fault := parse.Query(query)
	return p, l, q, map[bool]api.Refusal{false: refusal(api.PartQuery, fault.Code, fault.At)}[fault.Code == api.OK]
}

// slowAnswer is P27.3.
func slowAnswer(program, facts, query string, w api.Way) ([]string, api.Refusal) {
	if !isWay(w) {
		return nil, refusal(api.PartNone, api.ErrArg, 0)
	}
	p, l, q, r := slowRead(program, facts, query)
	if r != fine() {
		return nil, r
	}
	tuples, r := slowSolve(p, l, q, w)
	var out []string
	for _, values := range tuples {
		out = append(out, slowLine(api.Fact{Pred: q.Pred, Args: values}))
	}
	return out, r
}

func slowRules(l []api.Rule) []string {
	var out []string
	for _, r := range l {
		s, _ := print.Rule(r)
		out = append(out, s)
	}
	return out
}

// slowExplain is P27.5.
func slowExplain(program, query string) ([]string, api.Refusal) {
	p, _, q, r := slowRead(program, "", query)
	if r != fine() {
		return nil, r
	}
	if r := slowFit(p, nil); r != fine() {
		return nil, r
	}
	if r := check.Input(p, nil, q); r != fine() {
		return nil, r
	}
	ahead, plain := depend.Split(p)
	pruned, _ := subsume.Prune(plain.Rules, q)
	adorned, pairs, _ := adorn.Adorn(pruned, q)
	rewritten, _ := magic.Rewrite(pruned, q)
	out := []string{fmt.Sprintf("# ahead: %d rules", len(ahead.Rules))}
	out = append(out, slowRules(ahead.Rules)...)
	out = append(out, fmt.Sprintf("# plain: %d rules", len(plain.Rules)))
	out = append(out, slowRules(plain.Rules)...)
	out = append(out, fmt.Sprintf("# pruned: %d rules", len(pruned)))
	out = append(out, slowRules(pruned)...)
	out = append(out, fmt.Sprintf("# adorned: %d rules, %d pairs", len(adorned.Rules), len(pairs)))
	out = append(out, slowRules(adorned.Rules)...)
	asked, _ := print.Query(adorned.Query)
	out = append(out, "# adorned query: "+asked)
	out = append(out, fmt.Sprintf("# magic: %d rules, %d seeds", len(rewritten.Rules), len(rewritten.Seeds)))
	out = append(out, slowRules(rewritten.Rules)...)
	for _, f := range rewritten.Seeds {
		out = append(out, slowLine(f))
	}
	asked, _ = print.Query(rewritten.Query)
	return append(out, "# magic query: "+asked), fine()
}
