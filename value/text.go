package value

import (
	"strconv"
	"strings"

	"almanac/api"
	"almanac/num"
)

// The texts of the values that have no digits, and the letters of the others.
const (
	nullText  = "null"
	falseText = "false"
	trueText  = "true"
	quote     = '"'
	escape    = '\\'
	codeMark  = 'x'
	hexDigits = "0123456789abcdef"
	nodeOpen  = "("
	nodeClose = ")"
	edgeOpen  = "["
	edgeClose = "]"
)

// The bytes that stand for themselves in a Str's text.
const (
	firstPlain = 0x20
	lastPlain  = 0x7e
)

// Text is the text of v, or ErrArg: P2.4.
func Text(v api.Value) (string, api.Errno) {
	if !May(v) {
		return "", api.ErrArg
	}
	switch v.Kind {
	case api.Bool:
		return strconv.FormatBool(v.Bool), api.OK
	case api.Int:
		return digits(v), api.OK
	case api.Float:
		return num.Text(v.Float), api.OK
	case api.Str:
		return quoted(v.Str), api.OK
	case api.Node:
		return nodeOpen + digits(v) + nodeClose, api.OK
	case api.Edge:
		return edgeOpen + digits(v) + edgeClose, api.OK
	}
	return nullText, api.OK
}

// digits is the text of a Num.
func digits(v api.Value) string { return strconv.FormatInt(v.Num, 10) }

// quoted is the text of a Str.
func quoted(s string) string {
	text := []byte{quote}
	for i := range len(s) {
		c := s[i]
		switch {
		case c == quote || c == escape:
			text = append(text, escape, c)
		case c < firstPlain || c > lastPlain:
			text = append(text, escape, codeMark, hexDigits[c>>4], hexDigits[c&15])
		default:
			text = append(text, c)
		}
	}
	return string(append(text, quote))
}

// Parse is the value whose text s is, or ErrForm: P2.4. What it reads from s may have other texts as well, so the value's own one has the last word; Text refuses what isn't valid.
func Parse(s string) (api.Value, api.Errno) {
	v, ok := read(s)
	if !ok {
		return api.Value{}, api.ErrForm
	}
	if text, err := Text(v); err != api.OK || text != s {
		return api.Value{}, api.ErrForm
	}
	return v, api.OK
}

// read is the value that s tells, strictly in its form or not.
func read(s string) (api.Value, bool) {
	switch {
	case s == nullText:
		return api.Value{}, true
	case s == falseText, s == trueText:
		return Truth(s == trueText), true
	case strings.HasPrefix(s, string(quote)):
		return readStr(s)
	case strings.HasPrefix(s, nodeOpen):
		return readId(s, api.Node, nodeOpen, nodeClose)
	case strings.HasPrefix(s, edgeOpen):
		return readId(s, api.Edge, edgeOpen, edgeClose)
	}
	return readNumber(s)
}

// readNumber reads an Int or a Float. No text is both.
func readNumber(s string) (api.Value, bool) {
	if n, err := num.Whole(s); err == api.OK {
		return Number(n), true
	}
	f, err := num.Parse(s)
	if err != api.OK {
		return api.Value{}, false
	}
	return Point(f), true
}

// readId reads a Node or an Edge, whose Num stands between open and end.
func readId(s string, kind int, open, end string) (api.Value, bool) {
	inner, ok := strings.CutSuffix(strings.TrimPrefix(s, open), end)
	if !ok {
		return api.Value{}, false
	}
	n, err := num.Whole(inner)
	if err != api.OK {
		return api.Value{}, false
	}
	return api.Value{Kind: kind, Num: n}, true
}

// readStr reads a Str, which begins with a quote. It stops at the first byte too many, so that a long text costs no memory.
func readStr(s string) (api.Value, bool) {
	var str []byte
	at := 1
text:
	for at < len(s) && len(str) <= api.MaxStr {
		c := s[at]
		at++
		if c == quote {
			return Word(string(str)), at == len(s)
		}
		if c == escape {
			if at == len(s) {
				break text
			}
			c = s[at]
			at++
			if c == codeMark {
				c = 0
				for range 2 {
					if at == len(s) {
						break text
					}
					digit := strings.IndexByte(hexDigits, s[at])
					if digit < 0 {
						break text
					}
					c = c<<4 | byte(digit)
					at++
				}
			}
		}
		str = append(str, c)
	}
	return api.Value{}, false
}
