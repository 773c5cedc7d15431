package plan

import "strata/api"

// What an operation asks of the kinds of its operands.
const (
	takesAny  = iota
	takesFit  // each fits one kind
	takesLike // all are of one kind
)

// likeOperands is the kind of what has that of its operands.
const likeOperands api.Kind = -1

// rule says which kinds an operation takes, and which one it gives (P16.4).
type rule struct {
	takes int
	fits  api.Kind
	gives api.Kind
}

// ruleOf tells that of a node; CASE and substr have their own.
func ruleOf(n api.Node) rule {
	switch n.Op {
	case api.ExInt:
		return rule{gives: api.KInt}
	case api.ExText:
		return rule{gives: api.KText}
	case api.ExNull:
		return rule{gives: api.KNull}
	case api.ExTrue, api.ExFalse, api.ExIsNull, api.ExNotNull:
		return rule{gives: api.KBool}
	case api.ExNeg, api.ExAdd, api.ExSub, api.ExMul, api.ExDiv, api.ExMod:
		return rule{takesFit, api.KInt, api.KInt}
	case api.ExNot, api.ExAnd, api.ExOr:
		return rule{takesFit, api.KBool, api.KBool}
	case api.ExCat:
		return rule{takesFit, api.KText, api.KText}
	case api.ExLike:
		return rule{takesFit, api.KText, api.KBool}
	case api.ExCall:
		return callRule(n.Text)
	}
	return rule{takes: takesLike, gives: api.KBool} // comparisons, BETWEEN and IN
}

func callRule(name string) rule {
	switch name {
	case "abs":
		return rule{takesFit, api.KInt, api.KInt}
	case "length":
		return rule{takesFit, api.KText, api.KInt}
	case "lower", "upper":
		return rule{takesFit, api.KText, api.KText}
	}
	return rule{takes: takesLike, gives: likeOperands} // nullif, coalesce, least and greatest
}

// kindOf tells the kind of a node over operands of some kinds, if these fit.
func kindOf(n api.Node, kinds []api.Kind) (api.Kind, bool) {
	switch {
	case n.Op == api.ExCase:
		return kindOfCase(kinds)
	case n.Op == api.ExCall && n.Text == "substr":
		return api.KText, allFit(api.KText, kinds[:1]) && allFit(api.KInt, kinds[1:])
	}
	r := ruleOf(n)
	switch r.takes {
	case takesFit:
		return r.gives, allFit(r.fits, kinds)
	case takesLike:
		kind, good := oneKind(kinds)
		if r.gives != likeOperands {
			kind = r.gives
		}
		return kind, good
	}
	return r.gives, true
}

// kindOfCase looks at the WHENs apart from what CASE may answer: each THEN, and the ELSE.
func kindOfCase(kinds []api.Kind) (api.Kind, bool) {
	last := len(kinds) - 1
	answers := []api.Kind{kinds[last]}
	for i := 0; i < last; i += 2 {
		if !fits(kinds[i], api.KBool) {
			return api.KNull, false
		}
		answers = append(answers, kinds[i+1])
	}
	return oneKind(answers)
}

// fits tells whether a kind is another one, or that of null.
func fits(kind, as api.Kind) bool { return kind == as || kind == api.KNull }

func allFit(as api.Kind, kinds []api.Kind) bool {
	for _, kind := range kinds {
		if !fits(kind, as) {
			return false
		}
	}
	return true
}

// oneKind tells the kind that all have but those of null, if they are of one kind.
func oneKind(kinds []api.Kind) (api.Kind, bool) {
	one := api.KNull
	for _, kind := range kinds {
		if kind != api.KNull {
			one = kind
		}
	}
	return one, allFit(one, kinds)
}
