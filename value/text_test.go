package value

import (
	"fmt"
	"math"
	"math/rand"
	"strconv"
	"strings"
	"testing"

	"almanac/api"
)

// P2.4: texts, both ways.
func TestText(t *testing.T) {
	for _, x := range []struct {
		v    api.Value
		text string
	}{
		{api.Value{}, "null"}, {Truth(true), "true"}, {Truth(false), "false"},
		{Number(0), "0"}, {Number(7), "7"}, {Number(-7), "-7"}, {Number(10), "10"}, {Number(math.MaxInt64), "9223372036854775807"}, {Number(math.MinInt64), "-9223372036854775808"},
		{Point(0), "0.0"}, {Point(negZero), "-0.0"}, {Point(1), "1.0"}, {Point(1.5), "1.5"}, {Point(-2.25), "-2.25"}, {Point(1e21), "1e+21"}, {Point(1e-7), "1e-07"}, {Point(1000000), "1e+06"}, {Point(100000), "100000.0"},
		{Point(math.NaN()), "nan"}, {Point(math.Inf(1)), "inf"}, {Point(math.Inf(-1)), "-inf"}, {Point(math.MaxFloat64), "1.7976931348623157e+308"}, {Point(math.SmallestNonzeroFloat64), "5e-324"},
		{Word(""), `""`}, {Word("a"), `"a"`}, {Word("a b"), `"a b"`}, {Word("\x61\x22\x0a"), `"a\"\x0a"`}, {Word(`\`), `"\\"`}, {Word(`"`), `"\""`}, {Word(`\x41`), `"\\x41"`}, {Word(`x`), `"x"`}, {Word("null"), `"null"`}, {Word("(7)"), `"(7)"`},
		{Word("\x00\x1f\x20\x7e\x7f\x80\xff"), `"\x00\x1f ~\x7f\x80\xff"`}, {Word("\u00e9"), `"\xc3\xa9"`}, {Word("\t\r\n"), `"\x09\x0d\x0a"`}, {Word("\xab\xcd\xef"), `"\xab\xcd\xef"`},
		{Word(strings.Repeat("a", 32)), `"` + strings.Repeat("a", 32) + `"`}, {Word(strings.Repeat("\xff", 32)), `"` + strings.Repeat(`\xff`, 32) + `"`}, {Word(strings.Repeat(`"`, 32)), `"` + strings.Repeat(`\"`, 32) + `"`},
		{node(1), "(1)"}, {node(7), "(7)"}, {node(1 << 40), "(1099511627776)"}, {edge(1), "[1]"}, {edge(3), "[3]"}, {edge(1 << 40), "[1099511627776]"},
	} {
		if s, err := Text(x.v); s != x.text || err != api.OK {
			t.Errorf("Text(%#v) is %q, %d", x.v, s, err)
		}
		if v, err := Parse(x.text); !equal(v, x.v) || err != api.OK {
			t.Errorf("Parse(%q) is %#v, %d", x.text, v, err)
		}
	}
}

// P2.4: Text of what is not valid.
func TestTextRejects(t *testing.T) {
	for _, v := range invalid() {
		if s, err := Text(v); s != "" || err != api.ErrArg {
			t.Errorf("Text(%#v) is %q, %d", v, s, err)
		}
	}
}

// P2.4: the text of each byte in a Str.
func TestTextOfBytes(t *testing.T) {
	for i := range 256 {
		c := byte(i)
		want := string([]byte{c})
		switch {
		case c == '"' || c == '\\':
			want = `\` + want
		case c < 0x20 || c > 0x7e:
			want = fmt.Sprintf(`\x%02x`, i)
		}
		for _, p := range [][2]string{{"", ""}, {"ab", "cd"}, {`x"`, "0a"}} {
			v := Word(p[0] + string([]byte{c}) + p[1])
			text := `"` + strings.ReplaceAll(p[0], `"`, `\"`) + want + p[1] + `"`
			if s, err := Text(v); s != text || err != api.OK {
				t.Errorf("Text of byte %x is %q, %d", i, s, err)
			}
			if got, err := Parse(text); !equal(got, v) || err != api.OK {
				t.Errorf("Parse(%q) is %#v, %d", text, got, err)
			}
		}
		// All other ways to write the byte are no texts.
		for _, form := range []string{string([]byte{c}), string([]byte{'\\', c}), fmt.Sprintf(`\x%02x`, i), fmt.Sprintf(`\x%02X`, i), fmt.Sprintf(`\X%02x`, i), fmt.Sprintf(`\%03o`, i), fmt.Sprintf(`\u%04x`, i), fmt.Sprintf(`\x%x`, i)} {
			if form == want {
				continue
			}
			if v, err := Parse(`"` + form + `"`); !equal(v, api.Value{}) || err != api.ErrForm {
				t.Errorf("Parse(%q) is %#v, %d", `"`+form+`"`, v, err)
			}
		}
	}
}

// P2.4: what is no text of a value.
func TestParseRejects(t *testing.T) {
	for _, s := range []string{
		"", " ", "nul", "nulll", "NULL", "Null", " null", "null ", "nil", "True", "TRUE", "tru", "truee", "False", "fals", "falsee", "true\n", "\x00", "\xff",
		"007", "01", "-01", "00", "-0", "+1", "+0", "--1", "-", "1 ", " 1", "1_0", "0x1", "1a", "9223372036854775808", "-9223372036854775809", "99999999999999999999", "\u0661",
		"1.50", "1.", ".5", "-.5", "5.00", "1e21", "1e+021", "1E+21", "1.0e+21", "10e+20", "1e5", "1e+05", "100000.00", "00.5", "-00.5", "1e6", "1000000.0", "0e0", "0.00", "-0.00", "1e-7", "1e-007", "0.0000001", "1e400", "1e+400", "-1e+400", "1e-400", "0.1000000000000000055511151231257827", "9007199254740993.0",
		"NaN", "NAN", "-nan", "+nan", "nan ", "Inf", "+inf", "infinity", "-Inf", "--inf", "inf ",
		`"`, `"a`, `a"`, `a`, `""a`, `"a"b`, `"a" `, ` "a"`, `"""`, `"a""`, `"a"b"`, `'a'`, "`a`", `"\"`, `"\`, `"\\`, `"a\`, `"a\"`, `"\\\"`,
		`"\x41"`, `"\x20"`, `"\x7e"`, `"\x22"`, `"\x5c"`, `"\n"`, `"\t"`, `"\a"`, `"\'"`, `"\0"`, `"\/"`, `"\u00e9"`, `"\X0a"`, `"\x0A"`, `"\xFF"`, `"\xfF"`, `"\xg0"`, `"\x0g"`, `"\x"`, `"\x0"`, `"\x0`, `"\x`, `"\x00`, `"\x 0"`, `"\x-1"`, `"\x0"0"`, `"\xx00"`,
		"\"\n\"", "\"\x00\"", "\"\x1f\"", "\"\x7f\"", "\"\x80\"", "\"\xff\"", "\"\u00e9\"", `"` + strings.Repeat("a", 33) + `"`, `"` + strings.Repeat(`\xff`, 33) + `"`, `"` + strings.Repeat("a", 32), `"` + strings.Repeat("a", 5000) + `"`, `"` + strings.Repeat("a", 32) + `\"`,
		"(", ")", "()", "(0)", "(-1)", "(-0)", "(01)", "(+1)", "( 1)", "(1 )", "(1", "1)", "(1]", "[1)", "((1))", "(1))", "(1)(2)", "(a)", "(1.0)", "(1e0)", "(1099511627777)", "(9223372036854775807)", "(9223372036854775808)", "(99999999999999999999999)", "(1) ", " (1)", "(null)", "{1}",
		"[", "]", "[]", "[0]", "[-1]", "[-0]", "[01]", "[+1]", "[ 1]", "[1 ]", "[1", "1]", "[[1]]", "[1]]", "[1][2]", "[a]", "[1.0]", "[1099511627777]", "[9223372036854775808]", "[1] ", " [1]", "[true]",
		strings.Repeat("9", 3000), strings.Repeat("9", 3000) + ".0", "0." + strings.Repeat("1", 3000), "(" + strings.Repeat("0", 3000) + "1)", "1" + strings.Repeat("0", 300) + ".0",
	} {
		if v, err := Parse(s); !equal(v, api.Value{}) || err != api.ErrForm {
			t.Errorf("Parse(%q) is %#v, %d", s, v, err)
		}
	}
}

// P2.7: Parse of a text is the value, and no two values have one text.
func TestBack(t *testing.T) {
	had := map[string]api.Value{}
	for _, v := range manyValues(20000) {
		s, err := Text(v)
		if err != api.OK {
			t.Fatalf("Text(%#v): %d", v, err)
		}
		if got, err := Parse(s); !equal(got, v) || err != api.OK {
			t.Errorf("%#v came back from %q as %#v, %d", v, s, got, err)
		}
		if other, ok := had[s]; ok && !equal(other, v) {
			t.Errorf("%#v and %#v have the text %q", v, other, s)
		}
		had[s] = v
	}
}

// checkParsed holds what Parse tells of s against Text.
func checkParsed(t *testing.T, s string) {
	v, err := Parse(s)
	switch err {
	case api.OK:
		if text, err := Text(v); text != s || err != api.OK || !May(v) {
			t.Errorf("Parse(%q) is %#v, and its text %q, %d", s, v, text, err)
		}
	case api.ErrForm:
		if !equal(v, api.Value{}) {
			t.Errorf("Parse(%q) is %#v beside an error", s, v)
		}
	default:
		t.Errorf("Parse(%q): %d", s, err)
	}
}

// P2.7: the text of what was parsed is what was parsed, on every short string of the letters that matter, and on texts with a fault.
func TestParsedTexts(t *testing.T) {
	texts := []string{""}
	for range 5 {
		var longer []string
		for _, s := range texts {
			for _, c := range []byte("\"\\x0a1.-(]") {
				longer = append(longer, s+string(c))
			}
		}
		texts = longer
		for _, s := range texts {
			checkParsed(t, s)
		}
	}
	r := rand.New(rand.NewSource(12))
	for _, v := range manyValues(5000) {
		s, _ := Text(v)
		at := r.Intn(len(s) + 1)
		checkParsed(t, s[:at])
		checkParsed(t, s[at:])
		checkParsed(t, s[:at]+"\"\\x0aA1.-e+([)]n\n\xff"[r.Intn(18):][:1]+s[at:])
		if at < len(s) {
			checkParsed(t, s[:at]+s[at+1:])
			checkParsed(t, s[:at]+string([]byte{s[at] ^ 1<<r.Intn(8)})+s[at+1:])
		}
	}
}

// P2.4: every integer and every finite float has the text that the document gives it.
func TestTextOfNumbers(t *testing.T) {
	for _, v := range manyValues(5000) {
		s, _ := Text(v)
		switch v.Kind {
		case api.Int:
			if s != strconv.FormatInt(v.Num, 10) {
				t.Errorf("Text(%d) is %q", v.Num, s)
			}
		case api.Float:
			want := strconv.FormatFloat(v.Float, 'g', -1, 64)
			if !strings.ContainsAny(want, ".eIN") {
				want += ".0"
			}
			if want = strings.ToLower(strings.TrimPrefix(want, "+")); s != want {
				t.Errorf("Text of %v is %q", v.Float, s)
			}
		}
	}
}
