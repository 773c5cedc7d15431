package tongue_test

import (
	"regexp"
	"slices"
	"strings"

	"strata/api"
)

// grammarText is the chapter's grammar, to the letter.
const grammarText = `
script    = { command ";" }
command   = "@" int statement
          | PLAY text | DRAIN | TICK int | FLUSH | SYNC | CHECKPOINT | MERGE int
          | CUT int | CRASH [ int { "," int } ] | RESTART | CHECK
statement = CREATE TABLE name "(" column { "," column } "," PRIMARY KEY "(" name { "," name } ")" ")"
          | DROP TABLE name
          | INSERT INTO name [ "(" name { "," name } ")" ] VALUES row { "," row }
          | SELECT ( "*" | item { "," item } ) FROM name
                   [ WHERE expr ] [ ORDER BY sort { "," sort } ] [ LIMIT int ]
          | UPDATE name SET name "=" expr { "," name "=" expr } [ WHERE expr ]
          | DELETE FROM name [ WHERE expr ]
          | BEGIN [ READ COMMITTED | SNAPSHOT | REPEATABLE READ | SERIALIZABLE ]
          | COMMIT | ROLLBACK
column    = name ( INT | TEXT | BOOL ) [ NOT NULL ]
row       = "(" expr { "," expr } ")"
item      = ( expr | COUNT "(" "*" ")" | ( COUNT | SUM | MIN | MAX ) "(" expr ")" ) [ AS name ]
sort      = name [ ASC | DESC ]

expr      = and { OR and }
and       = not { AND not }
not       = NOT not | test
test      = cat [ ( "=" | "<>" | "<" | "<=" | ">" | ">=" ) cat
                | IS [ NOT ] NULL
                | [ NOT ] BETWEEN cat AND cat
                | [ NOT ] IN "(" expr { "," expr } ")"
                | [ NOT ] LIKE cat ]
cat       = sum { "||" sum }
sum       = product { ( "+" | "-" ) product }
product   = unary { ( "*" | "/" | "%" ) unary }
unary     = "-" unary | primary
primary   = int | text | NULL | TRUE | FALSE | name
          | name "(" expr { "," expr } ")"
          | "(" expr ")"
          | CASE WHEN expr THEN expr { WHEN expr THEN expr } [ ELSE expr ] END
`

// production is one way to write a thing: the numbers of things, or, below 0, of tokens.
type production struct {
	left  int
	right []int
}

// grammar is that text, taken apart: things that may be left out or stand again have become things of their own.
type grammar struct {
	names  []string
	rules  []production
	byLeft [][]int
	tokens []api.Token
	empty  []bool // things that may be nothing
	words  []string
}

func grammarOf(text string) *grammar {
	g := &grammar{words: regexp.MustCompile(`"[^"]+"|[A-Za-z]+|[=|(){}\[\]]`).FindAllString(text, -1)}
	for len(g.words) > 0 {
		left := g.thing(g.words[0])
		g.words = g.words[2:]
		g.ways(left)
	}
	g.byLeft = make([][]int, len(g.names))
	for i, p := range g.rules {
		g.byLeft[p.left] = append(g.byLeft[p.left], i)
	}
	g.empty = make([]bool, len(g.names))
	for range g.names {
		for _, p := range g.rules {
			if !slices.ContainsFunc(p.right, func(s int) bool { return s < 0 || !g.empty[s] }) {
				g.empty[p.left] = true
			}
		}
	}
	return g
}

// thing gives the number of a thing by its name, a new one if the name is empty.
func (g *grammar) thing(name string) int {
	if i := slices.Index(g.names, name); i >= 0 && name != "" {
		return i
	}
	g.names = append(g.names, name)
	return len(g.names) - 1
}

// token gives the number of a token.
func (g *grammar) token(t api.Token) int {
	i := slices.Index(g.tokens, t)
	if i < 0 {
		i = len(g.tokens)
		g.tokens = append(g.tokens, t)
	}
	return -1 - i
}

// ways takes all ways to write a thing from the words.
func (g *grammar) ways(left int) {
	for {
		g.rules = append(g.rules, production{left, g.parts()})
		if len(g.words) == 0 || g.words[0] != "|" {
			return
		}
		g.words = g.words[1:]
	}
}

// parts takes what stands one behind the other.
func (g *grammar) parts() (right []int) {
	for len(g.words) > 0 && !strings.Contains("|)]}", g.words[0]) && (len(g.words) < 2 || g.words[1] != "=") {
		word := g.words[0]
		g.words = g.words[1:]
		switch {
		case strings.Contains("([{", word):
			right = append(right, g.group(word))
		case word[0] == '"':
			right = append(right, g.token(sign(strings.Trim(word, `"`))))
		case word == strings.ToUpper(word):
			right = append(right, g.token(key(word)))
		case word == "name":
			right = append(right, g.token(name("")))
		case word == "int":
			right = append(right, g.token(number(0)))
		case word == "text":
			right = append(right, g.token(literal("")))
		default:
			right = append(right, g.thing(word))
		}
	}
	return right
}

// group takes what stands in brackets as a new thing.
func (g *grammar) group(open string) int {
	within := g.thing("")
	g.ways(within)
	g.words = g.words[1:]
	if open == "(" {
		return within
	}
	whole := g.thing("")
	g.rules = append(g.rules, production{whole, nil})
	if open == "[" {
		g.rules = append(g.rules, production{whole, []int{within}})
	} else {
		g.rules = append(g.rules, production{whole, []int{whole, within}})
	}
	return whole
}

// spot is a place within a way to write a thing that begins at a token.
type spot struct{ rule, dot, from int }

// recognizer goes along tokens and knows all that they may be, by Earley's way: as long as there is something, some text goes on so.
type recognizer struct {
	*grammar
	start int
	sets  [][]spot
}

func (g *grammar) recognizer(start string) *recognizer {
	r := &recognizer{grammar: g, start: g.thing(start)}
	var first []spot
	for _, i := range g.byLeft[r.start] {
		first = append(first, spot{i, 0, 0})
	}
	r.sets = [][]spot{first}
	r.close()
	return r
}

// back takes tokens away again, so that n are left.
func (r *recognizer) back(n int) { r.sets = r.sets[:n+1] }

// feed takes a token; false, if no text goes on with it.
func (r *recognizer) feed(t api.Token) bool {
	t.At, t.Num = 0, 0
	if t.Kind != api.TokKey && t.Kind != api.TokSign {
		t.Text = ""
	}
	found := -1 - slices.Index(r.tokens, t)
	var next []spot
	for _, s := range r.sets[len(r.sets)-1] {
		if right := r.rules[s.rule].right; s.dot < len(right) && right[s.dot] == found && found < 0 {
			next = append(next, spot{s.rule, s.dot + 1, s.from})
		}
	}
	if len(next) == 0 {
		return false
	}
	r.sets = append(r.sets, next)
	r.close()
	return true
}

// close adds to the last set what it brings with it.
func (r *recognizer) close() {
	last := len(r.sets) - 1
	set := r.sets[last]
	add := func(s spot) {
		if !slices.Contains(set, s) {
			set = append(set, s)
		}
	}
	for i := 0; i < len(set); i++ {
		s := set[i]
		p := r.rules[s.rule]
		switch {
		case s.dot == len(p.right):
			from := set
			if s.from < last {
				from = r.sets[s.from]
			}
			for _, o := range from {
				if right := r.rules[o.rule].right; o.dot < len(right) && right[o.dot] == p.left {
					add(spot{o.rule, o.dot + 1, o.from})
				}
			}
		case p.right[s.dot] >= 0:
			thing := p.right[s.dot]
			for _, k := range r.byLeft[thing] {
				add(spot{k, 0, last})
			}
			if r.empty[thing] {
				add(spot{s.rule, s.dot + 1, s.from})
			}
		}
	}
	r.sets[last] = set
}

// whole tells whether the tokens up to here are all that is wanted.
func (r *recognizer) whole() bool {
	return slices.ContainsFunc(r.sets[len(r.sets)-1], func(s spot) bool {
		p := r.rules[s.rule]
		return p.left == r.start && s.dot == len(p.right) && s.from == 0
	})
}

// wrong goes along tokens, from those on that were fed already, and tells the first with which no text goes on, or -1; the last one is the text's end.
func (r *recognizer) wrong(tokens []api.Token) int {
	for i := len(r.sets) - 1; i < len(tokens)-1; i++ {
		if !r.feed(tokens[i]) {
			return i
		}
	}
	if !r.whole() {
		return len(tokens) - 1
	}
	return -1
}
