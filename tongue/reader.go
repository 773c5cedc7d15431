package tongue

import "strata/api"

// reader goes along the tokens of a script by the rules of its grammar; each rule is a method, which takes what it reads, or gives up with a fault (P15.6).
type reader struct {
	tokens []api.Token
	place  int // of the token that comes next; the text's end is never taken
	levels []levelRule
	firsts []firstRule
	out    api.Expr // what was read of the expression in hand
	open   int      // its nestings that are open
}

func readerOf(text string) *reader {
	return &reader{tokens: tokensOf(text), levels: levelRules(), firsts: firstRules()}
}

func (r *reader) next() api.Token { return r.tokens[r.place] }

// wrong is the fault of a token that cannot stand where it stands.
func (r *reader) wrong() fault { return fault{api.ErrSyntax, r.next().At} }

// is tells whether a keyword or a sign comes next; a name or a text of the same bytes is none.
func (r *reader) is(word string) bool {
	t := r.next()
	return (t.Kind == api.TokKey || t.Kind == api.TokSign) && t.Text == word
}

// takes takes a keyword or a sign, if it comes next.
func (r *reader) takes(word string) bool {
	found := r.is(word)
	if found {
		r.place++
	}
	return found
}

// take takes keywords and signs that must come next.
func (r *reader) take(words ...string) {
	for _, word := range words {
		if !r.takes(word) {
			panic(r.wrong())
		}
	}
}

// token takes one of a kind, which must come next.
func (r *reader) token(kind int) api.Token {
	t := r.next()
	if t.Kind != kind {
		panic(r.wrong())
	}
	r.place++
	return t
}

func (r *reader) name() string { return r.token(api.TokName).Text }

func (r *reader) integer() int64 { return r.token(api.TokInt).Num }

// number takes an integer where the document has an int.
func (r *reader) number() int { return int(r.integer()) }

// listOf reads entries with commas between them; the comma that brings one too many is a fault.
func listOf[T any](r *reader, most int, entry func(*reader) T) []T {
	list := []T{entry(r)}
	for r.is(",") {
		if len(list) == most {
			panic(fault{api.ErrMany, r.next().At})
		}
		r.take(",")
		list = append(list, entry(r))
	}
	return list
}

// bracketed reads such a list in brackets.
func bracketed[T any](r *reader, entry func(*reader) T) []T {
	r.take("(")
	list := listOf(r, api.MaxList, entry)
	r.take(")")
	return list
}
