package tongue

import (
	"strconv"
	"strings"

	"strata/api"
)

// scanner goes along a text from the left.
type scanner struct {
	text string
	at   int
}

// tokensOf reads all tokens of a text; it gives up with a fault at the first thing that is wrong (P15.1, P15.2).
func tokensOf(text string) []api.Token {
	if len(text) > api.MaxScript {
		panic(fault{api.ErrLong, 0})
	}
	s := scanner{text: text}
	var tokens []api.Token
	for s.pass(); s.at < len(text); s.pass() {
		start := s.at
		token := s.token()
		token.At = start
		tokens = append(tokens, token)
	}
	return append(tokens, api.Token{Kind: api.TokEnd, At: len(text)})
}

// rest is what has not been read yet.
func (s *scanner) rest() string { return s.text[s.at:] }

// pass goes over blanks and comments.
func (s *scanner) pass() {
	for s.at < len(s.text) {
		switch {
		case strings.IndexByte(" \t\n\r", s.text[s.at]) >= 0:
			s.at++
		case strings.HasPrefix(s.rest(), "--"):
			s.passLine()
		case strings.HasPrefix(s.rest(), "/*"):
			s.passRemark()
		default:
			return
		}
	}
}

func (s *scanner) passLine() {
	n := strings.IndexByte(s.rest(), '\n')
	if n < 0 {
		n = len(s.rest())
	}
	s.at += n
}

func (s *scanner) passRemark() {
	const opened = len("/*") // its star does not close it
	n := strings.Index(s.rest()[opened:], "*/")
	if n < 0 {
		panic(fault{api.ErrUnclosed, s.at})
	}
	s.at += opened + n + len("*/")
}

// token reads the longest token that begins here.
func (s *scanner) token() api.Token {
	rest := s.rest()
	switch first := rest[0]; {
	case strings.HasPrefix(rest, "x'"), strings.HasPrefix(rest, "X'"):
		return s.hex()
	case isLetter(first):
		return s.word()
	case isDigit(first):
		return s.integer()
	case first == '"':
		return s.quotedName()
	case first == '\'':
		return s.quotedText()
	}
	return s.sign()
}

// run takes the bytes of a kind that stand here.
func (s *scanner) run(has func(byte) bool) string {
	start := s.at
	for s.at < len(s.text) && has(s.text[s.at]) {
		s.at++
	}
	return s.text[start:s.at]
}

func (s *scanner) word() api.Token {
	start := s.at
	word := s.run(isWordByte)
	if great := strings.ToUpper(word); isKeyword(great) {
		return api.Token{Kind: api.TokKey, Text: great}
	}
	return nameAt(strings.ToLower(word), start)
}

// nameAt gives the token of a name, if it is neither empty nor too long.
func nameAt(name string, at int) api.Token {
	if !isName(name) {
		panic(fault{api.ErrIdent, at})
	}
	return api.Token{Kind: api.TokName, Text: name}
}

func isName(text string) bool { return len(text) >= 1 && len(text) <= api.MaxName }

func (s *scanner) integer() api.Token {
	start := s.at
	n, err := strconv.ParseInt(s.run(isDigit), 10, 64)
	if err != nil || s.at < len(s.text) && isLetter(s.text[s.at]) {
		panic(fault{api.ErrNumeral, start})
	}
	return api.Token{Kind: api.TokInt, Num: n}
}

func (s *scanner) quotedName() api.Token {
	start := s.at
	return nameAt(s.quoted(`"`), start)
}

func (s *scanner) quotedText() api.Token {
	start := s.at
	return textAt(s.quoted(`'`), start)
}

// textAt gives the token of a text, if it is not too long.
func textAt(text string, at int) api.Token {
	if len(text) > api.MaxText {
		panic(fault{api.ErrLong, at})
	}
	return api.Token{Kind: api.TokText, Text: text}
}

// quoted takes what stands between two quotes, where a doubled one stands for one.
func (s *scanner) quoted(quote string) string {
	start := s.at
	for next := start + 1; ; next += 2 {
		n := strings.Index(s.text[next:], quote)
		if n < 0 {
			panic(fault{api.ErrUnclosed, start})
		}
		next += n
		if !strings.HasPrefix(s.text[next+1:], quote) {
			s.at = next + 1
			return strings.ReplaceAll(s.text[start+1:next], quote+quote, quote)
		}
	}
}

// hex reads a text in hex digits; it ends with the next quote, whatever stands ahead of that.
func (s *scanner) hex() api.Token {
	start := s.at
	digits, _, closed := strings.Cut(s.rest()[len("x'"):], "'")
	switch {
	case !closed:
		panic(fault{api.ErrUnclosed, start})
	case len(digits)%2 != 0:
		panic(fault{api.ErrHex, start})
	}
	bytes := make([]byte, len(digits)/2)
	for i := range bytes {
		high, low := hexValue(digits[2*i]), hexValue(digits[2*i+1])
		if high < 0 || low < 0 {
			panic(fault{api.ErrHex, start})
		}
		bytes[i] = byte(high<<4 | low)
	}
	s.at += len("x''") + len(digits)
	return textAt(string(bytes), start)
}

// hexValue is what a hex digit stands for, -1 of another byte.
func hexValue(b byte) int {
	switch {
	case isDigit(b):
		return int(b - '0')
	case b >= 'a' && b <= 'f':
		return int(b-'a') + 10
	case b >= 'A' && b <= 'F':
		return int(b-'A') + 10
	}
	return -1
}

func (s *scanner) sign() api.Token {
	for _, sign := range signs {
		if strings.HasPrefix(s.rest(), sign) {
			s.at += len(sign)
			if sign == "!=" {
				sign = "<>"
			}
			return api.Token{Kind: api.TokSign, Text: sign}
		}
	}
	panic(fault{api.ErrChar, s.at})
}
