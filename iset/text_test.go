package iset

import (
	"math/rand"
	"regexp"
	"slices"
	"strconv"
	"strings"
	"testing"

	"almanac/api"
)

// P6.3: Text, of lists that are no normal forms too.
func TestText(t *testing.T) {
	for _, x := range []struct {
		l    []api.Period
		want string
	}{
		{nil, "[)"},
		{of(3, 3, 5, 4, 0, 1<<40+1), "[)"},
		{of(1, 1<<40), "[1,*)"},
		{of(0, 1<<40), "[0,*)"},
		{of(0, 1), "[0,1)"},
		{of(6, 9, 2, 4, 20, 1<<40), "[2,4)[6,9)[20,*)"},
		{of(2, 3, 1, 2), "[1,3)"},
		{of(1<<40-2, 1<<40-1), "[1099511627774,1099511627775)"},
		{of(1<<40-1, 1<<40), "[1099511627775,*)"},
	} {
		if got := Text(x.l); got != x.want {
			t.Errorf("Text(%v) is %q", x.l, got)
		}
		if got, err := Parse(x.want); !slices.Equal(got, Of(x.l)) || err != api.OK {
			t.Errorf("Parse(%q) is %v, %d", x.want, got, err)
		}
	}
}

// P6.3: Parse refuses what is not exactly the text of a set.
func TestParseRefuses(t *testing.T) {
	for _, s := range []string{
		"", "[", ")", "[)[)", "[) ", " [)", "[)[1,2)", "[1,2)[)", "()", "[]", "[,)",
		"1,2)", "[1,2", "[1 2)", "[1)", "[1,)", "[,2)", "(1,2)", "[1,2]", "[1,2,3)", "[[1,2)", "[1,2))", "[1,2);", "[1,2)x", "x[1,2)", "[1,2)\n", "[1,2)\x00",
		"[1,2) [4,5)", "[1,2),[4,5)", "[1,2)[4,5", "[ 1,2)", "[1 ,2)", "[1, 2)", "[1,2 )",
		"[01,2)", "[1,02)", "[00,1)", "[1,01)", "[+1,2)", "[1,+2)", "[-1,2)", "[-0,2)", "[1_0,20)", "[0x1,2)", "[1.0,2)", "[1e0,2)", "[1,2e1)", "[١,٢)",
		"[1,1)", "[2,1)", "[0,0)", "[1,2)[2,3)", "[1,3)[2,4)", "[1,9)[2,3)", "[4,5)[1,2)", "[1,2)[1,2)", "[1,2)[5,5)", "[5,5)[1,2)",
		"[*,*)", "[*,5)", "[*,1)", "[1,**)", "[1,*", "[1,*)[2,3)", "[1,*)[*,*)", "[1,2)[2,*)",
		"[1,1099511627776)", "[1,1099511627777)", "[1099511627776,*)", "[1099511627776,1099511627777)", "[1,2)[4,1099511627777)",
		"[1,18446744073709551615)", "[1,18446744073709551616)", "[1,18446744073709551618)", "[18446744073709551617,2)", "[1," + strings.Repeat("9", 1000) + ")", "[" + strings.Repeat("0", 1000) + "1,2)",
	} {
		if got, err := Parse(s); len(got) != 0 || err != api.ErrForm {
			t.Errorf("Parse(%q) is %v, %d", s, got, err)
		}
	}
}

// readText is the set whose text is s, and whether there is one, by the words of the chapter.
func readText(s string) ([]api.Period, bool) {
	if s == "[)" {
		return nil, true
	}
	if !regexp.MustCompile(`^(\[(0|[1-9][0-9]*),([1-9][0-9]*|\*)\))+$`).MatchString(s) {
		return nil, false
	}
	var l []api.Period
	for _, part := range regexp.MustCompile(`\[([0-9]+),([0-9]+|\*)\)`).FindAllStringSubmatch(s, -1) {
		from, err := strconv.ParseUint(part[1], 10, 64)
		to, errTo := strconv.ParseUint(strings.Replace(part[2], "*", "1099511627776", 1), 10, 64)
		if err != nil || errTo != nil || part[2] == "1099511627776" {
			return nil, false
		}
		l = append(l, api.Period{From: from, To: to})
	}
	return l, isNormal(l)
}

// P6.3: Parse of all strings of a few bytes of those that texts have.
func TestParseAllShort(t *testing.T) {
	const bytes = "[,)*01"
	var walk func(s string, left int)
	walk = func(s string, left int) {
		want, ok := readText(s)
		if got, err := Parse(s); !slices.Equal(got, want) && ok || (err == api.OK) != ok || !ok && (len(got) != 0 || err != api.ErrForm) {
			t.Errorf("Parse(%q) is %v, %d", s, got, err)
		}
		if left == 0 {
			return
		}
		for i := range bytes {
			walk(s+bytes[i:i+1], left-1)
		}
	}
	walk("", 5)
	walk("[0,1)", 5)
}

// P6.3: Parse of texts into which a change was made.
func TestParseChanged(t *testing.T) {
	r := rand.New(rand.NewSource(61))
	const bytes = "[,)*0123456789- +x\x00\xff"
	for range 20000 {
		s := []byte(Text(sparse(r)))
		at := r.Intn(len(s))
		switch r.Intn(3) {
		case 0:
			s[at] = bytes[r.Intn(len(bytes))]
		case 1:
			s = slices.Insert(s, at, bytes[r.Intn(len(bytes))])
		default:
			s = slices.Delete(s, at, at+1)
		}
		want, ok := readText(string(s))
		got, err := Parse(string(s))
		if ok && (err != api.OK || !slices.Equal(got, want)) || !ok && (err != api.ErrForm || len(got) != 0) {
			t.Errorf("Parse(%q) is %v, %d", s, got, err)
		}
	}
}

// P6.6: Parse of Text is the normal form, and Text of what Parse returned is the string.
func TestParseOfText(t *testing.T) {
	check := func(l []api.Period) {
		s := Text(l)
		got, err := Parse(s)
		if !slices.Equal(got, Of(l)) || err != api.OK || Text(got) != s {
			t.Errorf("Parse(%q), the text of %v, is %v, %d", s, l, got, err)
		}
	}
	anyLists(func(base uint64, l []api.Period) { check(l) })
	r := rand.New(rand.NewSource(60))
	for range 5000 {
		check(sparse(r))
	}
}
