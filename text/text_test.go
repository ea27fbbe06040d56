package text

import (
	"fmt"
	"regexp"
	"slices"
	"strconv"
	"strings"
	"testing"

	"postrider/api"
)

const (
	letters = "abcdefghijklmnopqrstuvwxyzABCDEFGHIJKLMNOPQRSTUVWXYZ"
	figures = "0123456789"
	signs   = "!#$%&'*+-/=?^_`{|}~"
)

// one answers the text of that one byte.
func one(c int) string { return string([]byte{byte(c)}) }

// every calls do with each text of the letters, of up to that many.
func every(letters string, many int, do func(string)) {
	do("")
	if many == 0 {
		return
	}
	for i := range len(letters) {
		every(letters, many-1, func(s string) { do(letters[i:i+1] + s) })
	}
}

// random answers a text of the letters, another one for each seed.
func random(seed uint64, letters string, many int) string {
	b := make([]byte, many)
	for i := range b {
		seed = seed*6364136223846793005 + 1442695040888963407
		b[i] = letters[(seed>>33)%uint64(len(letters))]
	}
	return string(b)
}

// allBytes answers a text of all bytes, in order.
func allBytes() string {
	b := make([]byte, 256)
	for c := range b {
		b[c] = byte(c)
	}
	return string(b)
}

// P4.1: A to Z as a to z, and each other byte as it is.
func TestLower(t *testing.T) {
	for c := range 256 {
		want := one(c)
		if c >= 'A' && c <= 'Z' {
			want = one(c + 32)
		}
		if got := Lower(one(c)); got != want {
			t.Errorf("Lower(%q): %q, not %q", one(c), got, want)
		}
	}
	for s, want := range map[string]string{
		"": "", "Mail.HOME.org": "mail.home.org", "@[`{": "@[`{", "aZ\x00Z": "az\x00z",
		// Neither other alphabets' letters nor the sign of kelvin are letters here.
		"ÄÖÉ\u212aK": "ÄÖÉ\u212ak", "Σ": "Σ", "İI": "İi",
		// Bytes that are no rune stay, and so does what stands behind them.
		"A\xffB\xc3": "a\xffb\xc3", "\xe2\x84A": "\xe2\x84a", "\xed\xa0\x80X": "\xed\xa0\x80x", "\xc3A": "\xc3a",
		allBytes(): allBytes()[:'A'] + letters[:26] + allBytes()['Z'+1:],
	} {
		if got := Lower(s); got != want {
			t.Errorf("Lower(%q): %q, not %q", s, got, want)
		}
	}
}

// P4.1: the same, lower.
func TestSame(t *testing.T) {
	for _, x := range []struct {
		s, t string
		want bool
	}{
		{"", "", true}, {"", "a", false}, {"a", "", false}, {"a", "A", true}, {"HOME.org", "home.ORG", true},
		{"home", "home ", false}, {"home", "hom", false}, {"ab", "ba", false}, {"Z", "z", true},
		{"@", "`", false}, {"[", "{", false}, {"0", "P", false},
		{"k", "\u212a", false}, {"s", "\u017f", false}, {"Ä", "ä", false}, {"ÄA", "Äa", true},
		{"\xff", "\xfe", false}, {"\xff", "\ufffd", false}, {"\xffA", "\xffa", true},
	} {
		if Same(x.s, x.t) != x.want || Same(x.t, x.s) != x.want {
			t.Errorf("Same(%q, %q): not %t", x.s, x.t, x.want)
		}
	}
	for c := range 256 {
		for d := range 256 {
			want := c == d || c|32 == d|32 && c|32 >= 'a' && c|32 <= 'z'
			if Same("x"+one(c), "X"+one(d)) != want {
				t.Errorf("Same of %02x and %02x: not %t", c, d, want)
			}
		}
	}
}

// P4.1: all bytes from 20 to 7e.
func TestPlain(t *testing.T) {
	if !Plain("") {
		t.Error("Plain of nothing: false")
	}
	for c := range 256 {
		want := c >= 0x20 && c <= 0x7e
		for _, s := range []string{one(c), "a" + one(c), one(c) + "a", "a b" + one(c) + "c"} {
			if Plain(s) != want {
				t.Errorf("Plain(%q): not %t", s, want)
			}
		}
	}
	for _, s := range []string{"é", "aé", "\ufffd", "a\xc3", "\u0120", "\U00010041"} {
		if Plain(s) {
			t.Errorf("Plain(%q)", s)
		}
	}
}

// P4.1: one or more letters of atoms.
func TestAtom(t *testing.T) {
	if Atom("") || DotAtom("") {
		t.Error("nothing is an atom")
	}
	for c := range 256 {
		want := strings.Contains(letters+figures+signs, one(c))
		for _, s := range []string{one(c), "a" + one(c), one(c) + "a", "a0" + one(c) + "~"} {
			if Atom(s) != want {
				t.Errorf("Atom(%q): not %t", s, want)
			}
			if want && !DotAtom(s) {
				t.Errorf("DotAtom(%q): false", s)
			}
			if !want && c != '.' && DotAtom(s) {
				t.Errorf("DotAtom(%q): true", s)
			}
		}
	}
	if !Atom(letters + figures + signs) {
		t.Error("Atom of all its letters: false")
	}
	for _, s := range []string{"é", "aé", "\ufffd", "a\xc3", "\u0141", "\U00010041", "a b", "a.b", "\"a\""} {
		if Atom(s) {
			t.Errorf("Atom(%q)", s)
		}
	}
}

// P4.1: atoms, a point between.
func TestDotAtom(t *testing.T) {
	for _, s := range []string{"a", "a.b", "first.last+tag", "a.b.c.d", "0.1", "~.!", letters + "." + figures + "." + signs} {
		if !DotAtom(s) {
			t.Errorf("DotAtom(%q): false", s)
		}
	}
	for _, s := range []string{".", "..", ".a", "a.", "a..b", "a...b", ".a.b", "a.b.", "a. b", "a .b", " a.b", "a.b ", "a.é", "a@b", "a.\"b\"", "a.(b)"} {
		if DotAtom(s) {
			t.Errorf("DotAtom(%q)", s)
		}
	}
	form := regexp.MustCompile(`^a+(\.a+)*$`)
	every("a. ", 7, func(s string) {
		if want := form.MatchString(s); DotAtom(s) != want {
			t.Errorf("DotAtom(%q): not %t", s, want)
		}
	})
}

// P4.1: without blanks and tabs at both ends, and with all else.
func TestTrim(t *testing.T) {
	for s, want := range map[string]string{
		"": "", " ": "", "\t": "", " \t \t": "", "a": "a", " a": "a", "a\t": "a", "\t a b\tc \t": "a b\tc",
		"\na\r": "\na\r", " \n ": "\n", "\v\f": "\v\f", "\u00a0a\u2003": "\u00a0a\u2003", " \xff ": "\xff", "(a) ": "(a)",
		" \x00 ": "\x00", "\x85 ": "\x85", " \xa0": "\xa0",
	} {
		if got := Trim(s); got != want {
			t.Errorf("Trim(%q): %q, not %q", s, got, want)
		}
	}
	form := regexp.MustCompile(`^[ \t]*|[ \t]*$`)
	every(" \ta\n", 6, func(s string) {
		if got, want := Trim(s), form.ReplaceAllString(s, ""); got != want {
			t.Errorf("Trim(%q): %q, not %q", s, got, want)
		}
	})
}

// P4.1: parted at each such byte, one part more than there are.
func TestSplit(t *testing.T) {
	for _, x := range []struct {
		s    string
		by   byte
		want []string
	}{
		{"", ',', []string{""}}, {"a", ',', []string{"a"}}, {",", ',', []string{"", ""}}, {",,", ',', []string{"", "", ""}},
		{"a,,b", ',', []string{"a", "", "b"}}, {",a,", ',', []string{"", "a", ""}}, {"a,b", '.', []string{"a,b"}},
		{"a b\tc", ' ', []string{"a", "b\tc"}}, {"\x00a\x00", 0, []string{"", "a", ""}}, {"", 0, []string{""}},
		// Each byte parts, also one that is a piece of a rune, or no rune.
		{"é", 0xc3, []string{"", "\xa9"}}, {"é", 0xa9, []string{"\xc3", ""}}, {"é", 0xe9, []string{"é"}},
		{"a\xffb", 0xff, []string{"a", "b"}}, {"a\xffb", 0xfe, []string{"a\xffb"}}, {"\ufffd", 0xff, []string{"\ufffd"}},
	} {
		if got := Split(x.s, x.by); !slices.Equal(got, x.want) {
			t.Errorf("Split(%q, %q): %q, not %q", x.s, x.by, got, x.want)
		}
	}
	for c := range 256 {
		s := one(c) + allBytes() + allBytes()
		got := Split(s, byte(c))
		want := []string{"", allBytes()[:c], allBytes()[c+1:] + allBytes()[:c], allBytes()[c+1:]}
		if !slices.Equal(got, want) {
			t.Errorf("Split of all bytes by %02x: %q", c, got)
		}
	}
}

// P4.1, R3: the parts that are answered are the caller's own.
func TestSplitNew(t *testing.T) {
	first := Split("a,b", ',')
	first[0] = "x"
	if second := Split("a,b", ','); !slices.Equal(second, []string{"a", "b"}) {
		t.Error(second)
	}
}

// P4.2: a backslash just ahead of quotes and backslashes.
func TestQuote(t *testing.T) {
	for s, want := range map[string]string{
		"": `""`, "a": `"a"`, "john doe": `"john doe"`, `a"b`: `"a\"b"`, `a\b`: `"a\\b"`, `"`: `"\""`, `\`: `"\\"`,
		`\"`: `"\\\""`, `""`: `"\"\""`, "(a)": `"(a)"`, " ": `" "`, "~": `"~"`, "a@b": `"a@b"`,
	} {
		if got, e := Quote(s); e != api.OK || got != want {
			t.Errorf("Quote(%q): %q, %d, not %q", s, got, e, want)
		}
	}
	for c := range 256 {
		for _, s := range []string{one(c), "a" + one(c), one(c) + "a", `"\` + one(c)} {
			got, e := Quote(s)
			if c >= 0x20 && c <= 0x7e {
				want := `"` + strings.NewReplacer(`"`, `\"`, `\`, `\\`).Replace(s) + `"`
				if e != api.OK || got != want {
					t.Errorf("Quote(%q): %q, %d, not %q", s, got, e, want)
				}
			} else if e != api.ErrForm || got != "" {
				t.Errorf("Quote(%q): %q, %d", s, got, e)
			}
		}
	}
	for _, s := range []string{"é", "aé", "\ufffd", "\u0141", "a\tb"} {
		if got, e := Quote(s); e != api.ErrForm || got != "" {
			t.Errorf("Quote(%q): %q, %d", s, got, e)
		}
	}
}

// quoted is what Quoted answers.
type quoted struct {
	inner string
	many  int
	e     api.Errno
}

func quotedOf(s string) quoted {
	inner, many, e := Quoted(s)
	return quoted{inner, many, e}
}

// P4.2: what a quoted string stands for, and its size, and each error.
func TestQuoted(t *testing.T) {
	for s, want := range map[string]quoted{
		`""`: {"", 2, 0}, `"a"`: {"a", 3, 0}, `"x y" z`: {"x y", 5, 0}, `"a\\b"@x`: {`a\b`, 6, 0}, `"a\"b"`: {`a"b`, 6, 0},
		`"\a\ \~"`: {"a ~", 8, 0}, `"\\"`: {`\`, 4, 0}, `"\\""`: {`\`, 4, 0}, `""""`: {"", 2, 0}, `"(a)"`: {"(a)", 5, 0},
		"\"a\"\x00\xff": {"a", 3, 0}, `"a"é`: {"a", 3, 0}, `"\""`: {`"`, 4, 0},

		"": {"", 0, api.ErrForm}, "a": {"", 0, api.ErrForm}, ` "a"`: {"", 0, api.ErrForm}, `\"a"`: {"", 0, api.ErrForm},
		`a"b"`: {"", 0, api.ErrForm}, `'a'`: {"", 0, api.ErrForm}, "é": {"", 0, api.ErrForm}, "(a)": {"", 0, api.ErrForm},

		`"`: {"", 0, api.ErrShort}, `"a`: {"", 0, api.ErrShort}, `"\`: {"", 0, api.ErrShort}, `"\"`: {"", 0, api.ErrShort},
		`"a\\\"`: {"", 0, api.ErrShort}, `"a (`: {"", 0, api.ErrShort},

		"\"\t\"": {"", 0, api.ErrForm}, "\"a\x7f": {"", 0, api.ErrForm}, "\"\\\t\"": {"", 0, api.ErrForm},
		"\"\\\x00": {"", 0, api.ErrForm}, `"é"`: {"", 0, api.ErrForm}, `"\é"`: {"", 0, api.ErrForm},
		"\"a\r\n b\"": {"", 0, api.ErrForm}, "\"a\xff": {"", 0, api.ErrForm}, "\"\\\xff": {"", 0, api.ErrForm},
	} {
		if got := quotedOf(s); got != want {
			t.Errorf("Quoted(%q): %v, not %v", s, got, want)
		}
	}
}

var (
	wholeQuoted = regexp.MustCompile(`^"(?:[ !#-\[\]-~]|\\[ -~])*"`)
	openQuoted  = regexp.MustCompile(`^"(?:[ !#-\[\]-~]|\\[ -~])*\\?$`)
)

// quotedTold is what Quoted must answer, told by the words' forms.
func quotedTold(s string) quoted {
	if whole := wholeQuoted.FindString(s); whole != "" {
		inner := regexp.MustCompile(`\\(.)`).ReplaceAllString(whole[1:len(whole)-1], "$1")
		return quoted{inner, len(whole), api.OK}
	}
	if openQuoted.MatchString(s) {
		return quoted{"", 0, api.ErrShort}
	}
	return quoted{"", 0, api.ErrForm}
}

// P4.2: each byte at each place, and each short text, as the words' forms have it.
func TestQuotedForms(t *testing.T) {
	hold := func(s string) {
		if got, want := quotedOf(s), quotedTold(s); got != want {
			t.Errorf("Quoted(%q): %v, not %v", s, got, want)
		}
	}
	for c := range 256 {
		for _, s := range []string{"%s", "\"%s", "\"%s\"", "\"\\%s", "\"\\%s\"", "\"a%s\"b", "\"a\"%s", "\"\\\\%s\"", "%s\"\""} {
			hold(fmt.Sprintf(s, one(c)))
		}
	}
	every("\"\\a\t(", 6, hold)
	for seed := range uint64(2000) {
		hold(`"` + random(seed, "\"\\\\\\ab (", int(seed%40)))
	}
}

// counted is what Comment and Blank answer.
type counted struct {
	many int
	e    api.Errno
}

func commentOf(s string) counted {
	many, e := Comment(s)
	return counted{many, e}
}

func blankOf(s string) counted {
	many, e := Blank(s)
	return counted{many, e}
}

// nested answers comments so deep within one another.
func nested(deep int) string {
	return strings.Repeat("(", deep) + strings.Repeat(")", deep)
}

// P4.3: a comment's size, and each error.
func TestComment(t *testing.T) {
	for s, want := range map[string]counted{
		"()": {2, 0}, "(a)": {3, 0}, "(one (two) \\) three) four": {20, 0}, "(a (b))": {7, 0}, "()()": {2, 0}, "())": {2, 0},
		"(\t )": {4, 0}, "(\\()": {4, 0}, "(\\))": {4, 0}, "(\\\\)": {4, 0}, "(\\\\))": {4, 0}, "(\")\"": {3, 0}, "(a)\x00\xff": {3, 0},
		"(\\ \\~\\a)": {8, 0}, "(()()((a)b))c": {12, 0}, "(a)é": {3, 0},

		"": {0, api.ErrForm}, "a": {0, api.ErrForm}, ")": {0, api.ErrForm}, ")(": {0, api.ErrForm}, " ()": {0, api.ErrForm},
		"\\()": {0, api.ErrForm}, "[]": {0, api.ErrForm}, "é": {0, api.ErrForm}, "\"\"": {0, api.ErrForm},

		"(": {0, api.ErrShort}, "(a": {0, api.ErrShort}, "(()": {0, api.ErrShort}, "(\\": {0, api.ErrShort}, "(\\)": {0, api.ErrShort},
		"(a (b) ": {0, api.ErrShort}, "(\t": {0, api.ErrShort},

		"(\n)": {0, api.ErrForm}, "(\x7f": {0, api.ErrForm}, "(\\\t)": {0, api.ErrForm}, "(\\\x00)": {0, api.ErrForm},
		"(é)": {0, api.ErrForm}, "(\\é)": {0, api.ErrForm}, "(\xff": {0, api.ErrForm}, "((a)\r\n b)": {0, api.ErrForm},
	} {
		if got := commentOf(s); got != want {
			t.Errorf("Comment(%q): %v, not %v", s, got, want)
		}
	}
}

// P4.3: eight deep, and not nine.
func TestCommentDeep(t *testing.T) {
	if Deep != 8 {
		t.Fatal("Deep:", Deep)
	}
	eight, seven := strings.Repeat("(", 8), strings.Repeat("(", 7)
	for s, want := range map[string]counted{
		nested(7): {14, 0}, nested(8): {16, 0}, nested(9): {0, api.ErrLong}, nested(40000): {0, api.ErrLong},
		// How deep is counted, not how many.
		"(" + strings.Repeat(nested(7), 50) + ")": {702, 0}, "(" + strings.Repeat("()", 30) + ")": {62, 0},
		eight + ")()" + strings.Repeat(")", 7): {18, 0}, nested(8) + nested(8): {16, 0},
		eight + ")((": {0, api.ErrLong}, eight + ")(": {0, api.ErrShort}, seven + "()(": {0, api.ErrShort},
		// A bracket behind a backslash opens nothing.
		eight + "\\(" + strings.Repeat(")", 8): {18, 0}, eight + "\\((": {0, api.ErrLong}, eight + "\\\\(": {0, api.ErrLong},
		// The first byte that is wrong tells the error.
		eight + "(\x00": {0, api.ErrLong}, eight + "\x00(": {0, api.ErrForm}, eight + "a": {0, api.ErrShort}, eight + "(": {0, api.ErrLong},
		"(\x00" + eight: {0, api.ErrForm}, eight + "é(": {0, api.ErrForm}, eight + "\\\t(": {0, api.ErrForm}, eight: {0, api.ErrShort},
	} {
		if got := commentOf(s); got != want {
			t.Errorf("Comment(%q): %v, not %v", s, got, want)
		}
	}
}

var wholeComment = regexp.MustCompile("^" + commentForm(Deep))

// commentForm is the form of comments so deep within one another at most.
func commentForm(deep int) string {
	form := `\((?:[\t -'*-\[\]-~]|\\[ -~]`
	if deep > 1 {
		form += "|" + commentForm(deep-1)
	}
	return form + `)*\)`
}

// begins tells whether a comment may begin so: with a letter more, which may
// stand anywhere in it, and with round brackets it is a whole one.
func begins(s string) bool {
	for deep := range Deep {
		whole := s + "a" + strings.Repeat(")", deep+1)
		if len(wholeComment.FindString(whole)) == len(whole) {
			return true
		}
	}
	return false
}

// commentTold is what Comment must answer, told by the words' forms.
func commentTold(s string) counted {
	if whole := wholeComment.FindString(s); whole != "" {
		return counted{len(whole), api.OK}
	}
	for i := range len(s) {
		if begins(s[:i+1]) {
			continue
		}
		if i > 0 && s[i] == '(' {
			return counted{0, api.ErrLong}
		}
		return counted{0, api.ErrForm}
	}
	if s == "" {
		return counted{0, api.ErrForm}
	}
	return counted{0, api.ErrShort}
}

// P4.3: each byte at each place, and each short text, as the words' forms have it.
func TestCommentForms(t *testing.T) {
	hold := func(s string) {
		if got, want := commentOf(s), commentTold(s); got != want {
			t.Errorf("Comment(%q): %v, not %v", s, got, want)
		}
	}
	for c := range 256 {
		for _, s := range []string{"%s", "(%s", "(%s)", "(\\%s", "(\\%s)", "(a(%s)b)", "(a)%s", "(\\\\%s)", "%s()", "(((((((%s)))))))", "((((((((%s))))))))"} {
			hold(fmt.Sprintf(s, one(c)))
		}
	}
	every("()\\a\t", 5, hold)
	for seed := range uint64(1500) {
		hold("(" + random(seed, "(((()))\\a", int(seed%40)))
	}
}

// P4.3: as many blanks, tabs and comments as stand at the front; a comment's error.
func TestBlank(t *testing.T) {
	for s, want := range map[string]counted{
		"": {0, 0}, "a": {0, 0}, " ": {1, 0}, "\t": {1, 0}, " \t a": {3, 0}, "\t (x)\t y": {7, 0}, " (a (b)) c": {9, 0},
		"(a)": {3, 0}, "(a)(b) (c)": {10, 0}, "(a)\t(b)\t.": {8, 0}, "a (": {0, 0}, " a(": {1, 0}, ")": {0, 0}, " )(": {1, 0},
		" \n": {1, 0}, "\n ": {0, 0}, "\r\n a": {0, 0}, "\\(": {0, 0}, "\"(\"": {0, 0}, " \xff(": {1, 0}, "\u00a0 ": {0, 0},
		nested(8) + " " + nested(8): {33, 0}, "\v": {0, 0}, "\x00": {0, 0},

		"(": {0, api.ErrShort}, " (": {0, api.ErrShort}, "(a) (": {0, api.ErrShort}, "(a)(\\)": {0, api.ErrShort}, "\t(a ": {0, api.ErrShort},
		"(\n)": {0, api.ErrForm}, " (a) (é)": {0, api.ErrForm}, "(a)\t(\x7f": {0, api.ErrForm}, "(a)(\\\t)": {0, api.ErrForm},
		nested(9): {0, api.ErrLong}, " " + nested(8) + nested(9): {0, api.ErrLong}, "() " + nested(9) + "(": {0, api.ErrLong},
	} {
		if got := blankOf(s); got != want {
			t.Errorf("Blank(%q): %v, not %v", s, got, want)
		}
	}
	if got, want := blankOf(strings.Repeat("(a) ", 20000)), (counted{80000, 0}); got != want {
		t.Errorf("Blank of many comments: %v", got)
	}
}

var blankForm = regexp.MustCompile("^(?:[ \\t]|" + commentForm(Deep) + ")*")

// P4.3: each byte at the front and behind, and each short text, as the words' forms have it.
func TestBlankForms(t *testing.T) {
	hold := func(s string) {
		want := counted{len(blankForm.FindString(s)), api.OK}
		if rest := s[want.many:]; strings.HasPrefix(rest, "(") {
			want = commentTold(rest)
		}
		if got := blankOf(s); got != want {
			t.Errorf("Blank(%q): %v, not %v", s, got, want)
		}
	}
	for c := range 256 {
		for _, s := range []string{"%s", " %s", "%s ", "(a)%s", "(%s)", " (a) (\\%s) b", "\t(%s"} {
			hold(fmt.Sprintf(s, one(c)))
		}
	}
	every("() \\a", 6, hold)
	for seed := range uint64(1500) {
		hold(random(seed, "(( )))\\a", int(seed%30)))
	}
}

// P4.4: one digit to as many as are told, these brought to 1 to 15.
func TestNumber(t *testing.T) {
	const fifteen = "999999999999999"
	for _, x := range []struct {
		s      string
		digits int
		want   int
		e      api.Errno
	}{
		{"0", 1, 0, 0}, {"7", 1, 7, 0}, {"42", 2, 42, 0}, {"42", 3, 42, 0}, {"007", 3, 7, 0}, {"000", 3, 0, 0}, {"25", 15, 25, 0},
		{fifteen, 15, 999999999999999, 0}, {"000000000000001", 15, 1, 0}, {"123456789012345", 15, 123456789012345, 0},
		{"42", 1, 0, api.ErrForm}, {"0042", 3, 0, api.ErrForm}, {"", 1, 0, api.ErrForm}, {"", 15, 0, api.ErrForm}, {"", 0, 0, api.ErrForm},
		// Digits are brought to 1 to 15.
		{"5", 0, 5, 0}, {"5", -1, 5, 0}, {"55", 0, 0, api.ErrForm}, {"55", -9223372036854775808, 0, api.ErrForm}, {"5", -9223372036854775808, 5, 0},
		{fifteen, 16, 999999999999999, 0}, {fifteen, 9223372036854775807, 999999999999999, 0}, {fifteen + "9", 16, 0, api.ErrForm},
		{"0000000000000001", 9223372036854775807, 0, api.ErrForm}, {fifteen, 14, 0, api.ErrForm},
		// Nothing but digits.
		{"-1", 5, 0, api.ErrForm}, {"+1", 5, 0, api.ErrForm}, {" 1", 5, 0, api.ErrForm}, {"1 ", 5, 0, api.ErrForm}, {"1_0", 5, 0, api.ErrForm},
		{"0x1", 5, 0, api.ErrForm}, {"1.0", 5, 0, api.ErrForm}, {"1e3", 5, 0, api.ErrForm}, {"١", 5, 0, api.ErrForm}, {"1é", 5, 0, api.ErrForm},
		{"12a", 5, 0, api.ErrForm}, {"a12", 5, 0, api.ErrForm}, {"\xff", 5, 0, api.ErrForm},
	} {
		if got, e := Number(x.s, x.digits); got != x.want || e != x.e {
			t.Errorf("Number(%q, %d): %d, %d, not %d, %d", x.s, x.digits, got, e, x.want, x.e)
		}
	}
	for c := range 256 {
		for _, s := range []string{one(c), "1" + one(c), one(c) + "2", "1" + one(c) + "3"} {
			want, err := strconv.Atoi(s)
			digit := c >= '0' && c <= '9'
			if digit && err != nil {
				t.Fatal(err)
			}
			got, e := Number(s, 3)
			if digit && (got != want || e != api.OK) || !digit && (got != 0 || e != api.ErrForm) {
				t.Errorf("Number(%q, 3): %d, %d", s, got, e)
			}
		}
	}
}

// P4.4: as many digits as are told, and not one more.
func TestNumberDigits(t *testing.T) {
	for digits := -3; digits < 20; digits++ {
		for many := range 20 {
			s := "123456789123456789123"[:many]
			got, e := Number(s, digits)
			if many == 0 || many > min(max(digits, 1), 15) {
				if got != 0 || e != api.ErrForm {
					t.Errorf("Number(%q, %d): %d, %d", s, digits, got, e)
				}
			} else if want, _ := strconv.Atoi(s); got != want || e != api.OK {
				t.Errorf("Number(%q, %d): %d, %d", s, digits, got, e)
			}
		}
	}
}

// thereAndBack holds that Quoted of Quote is the text, whole.
func thereAndBack(t *testing.T, s string) {
	t.Helper()
	q, e := Quote(s)
	if e != api.OK {
		t.Errorf("Quote(%q): %d", s, e)
	}
	for _, behind := range []string{"", "\"", "\\", " z", "\x00"} {
		if got, want := quotedOf(q+behind), (quoted{s, len(q), api.OK}); got != want {
			t.Errorf("Quoted(%q): %v, not %v", q+behind, got, want)
		}
	}
}

// P4.5: there and back.
func TestThereAndBack(t *testing.T) {
	every("\"\\a (", 6, func(s string) {
		thereAndBack(t, s)
		inner, _, e := Quoted(`"` + s)
		if e != api.OK {
			return
		}
		q, e := Quote(inner)
		if again := quotedOf(q); e != api.OK || again != (quoted{inner, len(q), api.OK}) {
			t.Errorf("of %q: %q, %d, %v", s, q, e, again)
		}
	})
	thereAndBack(t, allBytes()[0x20:0x7f])
	thereAndBack(t, strings.Repeat("\\\"", 20000))
	for seed := range uint64(500) {
		thereAndBack(t, random(seed, allBytes()[0x20:0x7f], int(seed%80)))
	}
}

// P4.6: nothing that Blank counts is left behind it, and two blanks are one.
func TestBlankWhole(t *testing.T) {
	var blanks []string
	every("() \\a", 6, func(s string) {
		many, e := Blank(s)
		if e != api.OK {
			return
		}
		rest := s[many:]
		if rest != "" && strings.Contains(" \t(", rest[:1]) {
			t.Errorf("behind Blank(%q) stands %q", s, rest)
		}
		if left, e := Blank(rest); left != 0 || e != api.OK {
			t.Errorf("Blank(%q) behind Blank: %d, %d", rest, left, e)
		}
		if rest == "" {
			blanks = append(blanks, s)
		}
	})
	blanks = append(blanks, "\t", nested(8), strings.Repeat(nested(8)+"\t", 9), "(a\tb)")
	for _, a := range blanks {
		for _, b := range blanks {
			if got, want := blankOf(a+b), (counted{len(a + b), api.OK}); got != want {
				t.Errorf("Blank(%q): %v, not %v", a+b, got, want)
			}
		}
	}
}
