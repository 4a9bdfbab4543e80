package iset

import (
	"strconv"
	"strings"

	"almanac/api"
)

// The words of a text.
const (
	emptyText   = "[)"
	foreverText = "*"
)

// Text is the text of a: P6.3.
func Text(a []api.Period) string {
	set := Of(a)
	if len(set) == 0 {
		return emptyText
	}
	var text []byte
	for _, p := range set {
		text = append(text, '[')
		text = strconv.AppendUint(text, p.From, 10)
		text = append(text, ',')
		if p.To == api.Forever {
			text = append(text, foreverText...)
		} else {
			text = strconv.AppendUint(text, p.To, 10)
		}
		text = append(text, ')')
	}
	return string(text)
}

// Parse is the set whose text is s, or ErrForm: P6.3. It reads loosely, and then asks that s is the text of what was read: so only what Text may return passes.
func Parse(s string) ([]api.Period, api.Errno) {
	if s == emptyText {
		return nil, api.OK
	}
	var set []api.Period
	for rest := s; rest != ""; {
		p, behind, ok := readPeriod(rest)
		if !ok {
			return nil, api.ErrForm
		}
		set, rest = append(set, p), behind
	}
	if Text(set) != s {
		return nil, api.ErrForm
	}
	return set, api.OK
}

// readPeriod reads the period with which s begins, and tells what is behind it.
func readPeriod(s string) (p api.Period, behind string, ok bool) {
	s, opened := strings.CutPrefix(s, "[")
	from, s, parted := strings.Cut(s, ",")
	to, behind, closed := strings.Cut(s, ")")
	var fromOk, toOk bool
	p.From, fromOk = readEnd(from)
	p.To, toOk = readEnd(to)
	return p, behind, opened && parted && closed && fromOk && toOk
}

// readEnd reads an end of a period.
func readEnd(s string) (uint64, bool) {
	if s == foreverText {
		return api.Forever, true
	}
	n, err := strconv.ParseUint(s, 10, 64)
	return n, err == nil
}
