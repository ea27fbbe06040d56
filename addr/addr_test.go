package addr

import (
	"cmp"
	"regexp"
	"slices"
	"strconv"
	"strings"
	"testing"

	"postrider/api"
)

// one answers the text of that one byte.
func one(c int) string { return string([]byte{byte(c)}) }

// every calls do with each text of the letters, of up to that many.
func every(letters string, many int, do func(string)) {
	do("")
	if many == 0 {
		return
	}
	for i := range len(letters) {
		every(letters, many-1, func(s string) { do(letters[i:i+1] + s) })
	}
}

// random answers a text of the pieces, another one for each seed.
func random(seed uint64, many int, pieces ...string) string {
	s := ""
	for range many {
		seed = seed*6364136223846793005 + 1442695040888963407
		s += pieces[(seed>>33)%uint64(len(pieces))]
	}
	return s
}

// long answers a text of so many letters.
func long(many int) string { return strings.Repeat("x", many) }

// name answers a domain of so many bytes, whose labels may be.
func name(many int) string {
	return strings.Repeat(long(49)+".", 10)[:many-1] + "z"
}

const label = `[0-9A-Za-z](?:[0-9A-Za-z-]*[0-9A-Za-z])?`

var (
	nameForm  = regexp.MustCompile(`^` + label + `(?:\.` + label + `)*$`)
	dotAtom   = regexp.MustCompile("^[0-9A-Za-z!#$%&'*+\\-/=?^_`{|}~]+(?:\\.[0-9A-Za-z!#$%&'*+\\-/=?^_`{|}~]+)*$")
	splitForm = regexp.MustCompile(`^(?:"((?:[ !#-\[\]-~]|\\[ -~])+)"|([^"@][^@]*))@([^@]*)$`)
)

// literalTold tells whether a text is a literal, by what its numbers are written as.
func literalTold(s string) bool {
	if len(s) < 2 || s[0] != '[' || s[len(s)-1] != ']' {
		return false
	}
	numbers := strings.Split(s[1:len(s)-1], ".")
	for _, number := range numbers {
		if n, err := strconv.ParseUint(number, 10, 8); err != nil || strconv.FormatUint(n, 10) != number {
			return false
		}
	}
	return len(numbers) == 4
}

// domainTold is what is wrong with a domain, told by the words' forms.
func domainTold(s string) api.Errno {
	if literalTold(s) {
		return api.OK
	}
	if !nameForm.MatchString(s) {
		return api.ErrForm
	}
	if len(s) > 255 || slices.ContainsFunc(strings.Split(s, "."), func(l string) bool { return len(l) > 63 }) {
		return api.ErrLong
	}
	return api.OK
}

// parsed is what Parse answers.
type parsed struct {
	a api.Addr
	e api.Errno
}

func parseOf(s string) parsed {
	a, e := Parse(s)
	return parsed{a, e}
}

// parseTold is what Parse must answer, told by the words' forms.
func parseTold(s string) parsed {
	found := splitForm.FindStringSubmatch(s)
	if found == nil || found[1] == "" && !dotAtom.MatchString(found[2]) {
		return parsed{e: api.ErrForm}
	}
	local := found[2] + regexp.MustCompile(`\\(.)`).ReplaceAllString(found[1], "$1")
	e := domainTold(found[3])
	if e == api.OK && len(local) > 64 {
		e = api.ErrLong
	}
	if e != api.OK {
		return parsed{e: e}
	}
	return parsed{api.Addr{Local: local, Domain: found[3]}, api.OK}
}

// P5.1: names: labels of 1 to 63, a point between, 255 in all.
func TestMayDomainNames(t *testing.T) {
	for _, s := range []string{
		"a", "A", "0", "home.org", "HOME.Org", "a-b.c", "a--b", "xn--bcher-kva.example", "1.2.3.4", "300.1", "00.01", "a.b.c.d.e.f",
		long(63), long(63) + ".a", "a." + long(63), long(31) + "-" + long(31), name(255), name(254), "127.0.0.1", "1",
		strings.Repeat("a.", 127) + "a",
	} {
		if !MayDomain(s) {
			t.Errorf("MayDomain(%q): false", s)
		}
	}
	for _, s := range []string{
		"", ".", "..", ".a", "a.", "a..b", ".a.b", "a.b.", "-", "-a", "a-", "a.-b", "a-.b", "a.b-", "a.-", "-.a", "a.-.b", "--",
		"a b", " a", "a ", "a\tb", "a_b", "a@b", "a,b", "a/b", "a:b", "\"a\"", "(a)", "a(b)", "é", "aé", "é.org", "\xff", "a\xff",
		"a\x00", "a\n", "\u0661", "\u212a", "a\u3002b", long(64), long(64) + ".a", "a." + long(64), "a." + long(64) + ".b",
		name(256), name(300), strings.Repeat("a.", 127) + "aa", strings.Repeat("a.", 128) + "a", "*", "*.a",
	} {
		if MayDomain(s) {
			t.Errorf("MayDomain(%q)", s)
		}
	}
}

// P5.1: literals: four numbers from 0 to 255, without noughts in front.
func TestMayDomainLiterals(t *testing.T) {
	for _, s := range []string{"[127.0.0.1]", "[0.0.0.0]", "[255.255.255.255]", "[10.20.30.40]", "[1.22.200.249]", "[9.99.100.199]"} {
		if !MayDomain(s) {
			t.Errorf("MayDomain(%q): false", s)
		}
	}
	for _, s := range []string{
		"[", "]", "[]", "][", "[1]", "[1.2]", "[1.2.3]", "[1.2.3.4.5]", "[1.2.3.]", "[.1.2.3]", "[1..2.3]", "[1.2.3.4.]", "[.1.2.3.4]",
		"[...]", "[256.1.1.1]", "[1.256.1.1]", "[1.1.256.1]", "[1.1.1.256]", "[1.1.1.999]", "[1.1.1.1000]", "[01.2.3.4]", "[1.2.3.04]",
		"[00.0.0.0]", "[0.0.0.00]", "[1.2.000.4]", "[1.002.3.4]", "[1.2.3.4", "1.2.3.4]", "[[1.2.3.4]]", "[1.2.3.4]]", "[[1.2.3.4]",
		"[1.2.3.4].a", "a.[1.2.3.4]", "[1.2.3.4] ", " [1.2.3.4]", "[ 1.2.3.4]", "[1.2.3.4 ]", "[-1.2.3.4]", "[+1.2.3.4]", "[1.2.3.-4]",
		"[a.b.c.d]", "[1.2.3.a]", "[0x1.2.3.4]", "[1,2,3,4]", "[IPv6:::1]", "[::1]", "(1.2.3.4)", "{1.2.3.4}", "[home.org]", "[a]",
		"[1.2.3.4][1.2.3.4]", "[1.2.3.4.5.6.7.8]", "[\u0661.2.3.4]", "[1.2.3.99999999999999999999]",
	} {
		if MayDomain(s) {
			t.Errorf("MayDomain(%q)", s)
		}
	}
	for n := range 1100 {
		number := strconv.Itoa(n)
		for _, s := range []string{number, "0" + number, "00" + number} {
			for place := range 4 {
				numbers := []string{"0", "0", "0", "0"}
				numbers[place] = s
				if got := MayDomain("[" + strings.Join(numbers, ".") + "]"); got != (n < 256 && s == number) {
					t.Errorf("MayDomain of a literal with %q at %d: %t", s, place, got)
				}
			}
		}
	}
}

// P5.1: each byte at each place, and each short text, as the words' forms have it.
func TestMayDomainForms(t *testing.T) {
	hold := func(s string) {
		if want := domainTold(s) == api.OK; MayDomain(s) != want {
			t.Errorf("MayDomain(%q): not %t", s, want)
		}
	}
	for c := range 256 {
		for _, x := range [][2]string{{"", ""}, {"a", ""}, {"", "a"}, {"a", "a"}, {"a.", ""}, {"a.", ".b"}, {"[1.2.3.4", ""}, {"[1.2.3", "4]"}, {"[1.2.3.", "]"}} {
			hold(x[0] + one(c) + x[1])
		}
	}
	every("aZ0-._", 6, hold)
	every("[]1.", 8, hold)
	for seed := range uint64(20000) {
		hold("[" + random(seed, int(seed%12), "0", "1", "25", "5", "6", ".", ".", ".") + "]")
	}
	for many := range 300 {
		hold(long(many))
		hold("a." + long(many))
		hold(long(many) + ".a")
		hold(strings.Repeat("a.", many) + "a")
		hold(strings.Repeat("a.", many) + "aa")
	}
}

// P5.1: 1 to 64 plain bytes, and a domain.
func TestMay(t *testing.T) {
	for _, a := range []api.Addr{
		{Local: "u", Domain: "d"}, {Local: "u v", Domain: "d.e"}, {Local: ".", Domain: "d"}, {Local: "..a", Domain: "d"}, {Local: `"`, Domain: "d"},
		{Local: `\`, Domain: "d"}, {Local: " ", Domain: "d"}, {Local: "u@v", Domain: "d"}, {Local: "~!", Domain: "[1.2.3.4]"}, {Local: long(64), Domain: name(255)},
		{Local: strings.Repeat(`"`, 64), Domain: "d"}, {Local: `""`, Domain: long(63)},
	} {
		if !May(a) {
			t.Errorf("May(%q): false", a)
		}
	}
	for _, a := range []api.Addr{
		{}, {Local: "u"}, {Domain: "d"}, {Local: long(65), Domain: "d"}, {Local: "u", Domain: name(256)}, {Local: "u", Domain: long(64)}, {Local: "é", Domain: "d"},
		{Local: "u\tv", Domain: "d"}, {Local: "u\x00", Domain: "d"}, {Local: "\x7f", Domain: "d"}, {Local: "u\xff", Domain: "d"}, {Local: "u\r\n", Domain: "d"},
		{Local: "u", Domain: "-d"}, {Local: "u", Domain: "d."}, {Local: "u", Domain: "d_e"}, {Local: "u", Domain: "[1.2.3]"}, {Local: "u", Domain: "é"}, {Local: "u", Domain: "d@e"},
	} {
		if May(a) {
			t.Errorf("May(%q)", a)
		}
	}
	for c := range 256 {
		want := c >= 0x20 && c <= 0x7e
		for _, local := range []string{one(c), "a" + one(c), one(c) + "a"} {
			if May(api.Addr{Local: local, Domain: "d"}) != want {
				t.Errorf("May of Local %q: not %t", local, want)
			}
		}
	}
	for many := range 200 {
		if May(api.Addr{Local: long(many), Domain: "d"}) != (many >= 1 && many <= 64) {
			t.Errorf("May of a Local of %d bytes", many)
		}
	}
}

// P5.1: an address that is read, as it was written.
func TestParse(t *testing.T) {
	for s, want := range map[string]api.Addr{
		"u@d": {Local: "u", Domain: "d"}, "a.b+c@D.Org": {Local: "a.b+c", Domain: "D.Org"}, `"a b"@D.org`: {Local: "a b", Domain: "D.org"},
		"PostMaster@X": {Local: "PostMaster", Domain: "X"}, "~!#$%&'*+-/=?^_`{|}@d": {Local: "~!#$%&'*+-/=?^_`{|}", Domain: "d"},
		"u@[127.0.0.1]": {Local: "u", Domain: "[127.0.0.1]"}, `"u"@d`: {Local: "u", Domain: "d"}, `"u.v"@d`: {Local: "u.v", Domain: "d"},
		`"\u\ \v"@d`: {Local: "u v", Domain: "d"}, `"\"\\"@d`: {Local: `"\`, Domain: "d"}, `"u@v"@d`: {Local: "u@v", Domain: "d"}, `" "@d`: {Local: " ", Domain: "d"},
		`"."@d`: {Local: ".", Domain: "d"}, `"\"@\""@d`: {Local: `"@"`, Domain: "d"}, "u@1.2.3.4": {Local: "u", Domain: "1.2.3.4"}, "-@d": {Local: "-", Domain: "d"},
		long(64) + "@" + name(255): {Local: long(64), Domain: name(255)},
		// What is too long is what a quoted string stands for, not how it is written.
		`"` + strings.Repeat(`\"`, 64) + `"@d`: {Local: strings.Repeat(`"`, 64), Domain: "d"},
		`"` + long(64) + `"@` + long(63):       {Local: long(64), Domain: long(63)},
	} {
		if got := parseOf(s); got != (parsed{want, api.OK}) {
			t.Errorf("Parse(%q): %q, %d, not %q", s, got.a, got.e, want)
		}
	}
}

// P5.1: what is wrong, and its form ahead of its length.
func TestParseErrors(t *testing.T) {
	for _, s := range []string{
		"", "u", "@", "u@", "@d", "@@", "u@@d", "u@d@e", "u@v@d", "\"\"@d", "\"u\"", "\"u\"@", "\"u@d", "\"u\"d", "\"u\"@@d", "\"u\" @d", "\"u\"x@d",
		"x\"u\"@d", "\"u\"\"v\"@d", "\"u\".v@d", "u.\"v\"@d", ".u@d", "u.@d", "u..v@d", ".@d", "u v@d", " u@d", "u @d", "u@ d", "u@d ", "u@d\n",
		"(x)u@d", "u@d(x)", "<u@d>", "u@d.", "u@.d", "u@-d", "u@d-", "u@d_e", "u@d..e", "u@[1.2.3]", "u@[1.2.3.400]", "u@[01.2.3.4]", "u@[1.2.3.4", "é@d", "u@é",
		"\"é\"@d", "\"u\tv\"@d", "\"u\x7f\"@d", "\"\\\t\"@d", "\"u\\\"@d", "\"\\", "\"", "u\xff@d", "u\x00@d", "u@d\x00", "u,v@d", "u;@d", "u:v@d", "u[@d",
		// As long as they may not be, and not of the form.
		long(65), long(65) + "@", long(65) + "@-d", long(65) + "@d_e", "u@" + long(64) + ".", "u@-" + long(64), "u@" + long(64) + "-", "u@" + long(64) + "..a",
		"u@" + long(64) + ".a_b", "u@" + name(300) + "-", "u@" + name(300) + "_", "\"" + long(65), "\"" + long(65) + "\"", "\"" + long(65) + "\"@", "\"" + long(65) + "\"@d.",
		long(65) + " @d", long(65) + ".@d", "." + long(65) + "@d", long(65) + "@" + long(64) + ".", "\"" + long(65) + "\t\"@d", "u@[" + long(300) + "]", "u@[1.2.3.4" + strings.Repeat("0", 300) + "]",
	} {
		if got := parseOf(s); got != (parsed{e: api.ErrForm}) {
			t.Errorf("Parse(%q): %q, %d", s, got.a, got.e)
		}
	}
	for _, s := range []string{
		long(65) + "@d", long(40000) + "@d", long(32) + "." + long(32) + "@d", "\"" + long(65) + "\"@d", "\"" + strings.Repeat(`\\`, 65) + "\"@d",
		"u@" + long(64), "u@a." + long(64), "u@" + long(64) + ".a", "u@a." + long(64) + ".b", "u@" + name(256), "u@" + name(400), "u@" + strings.Repeat("a.", 127) + "aa",
		"u@" + strings.Repeat("a.", 128) + "a", long(65) + "@" + long(64), long(65) + "@[1.2.3.4]", "\"u\"@" + long(64), "u@" + strings.Repeat("a.", 40000) + "a", "u@" + long(300),
	} {
		if got := parseOf(s); got != (parsed{e: api.ErrLong}) {
			t.Errorf("Parse(%q): %q, %d", s, got.a, got.e)
		}
	}
}

// P5.1: each byte at each place, and each short text, as the words' forms have it.
func TestParseForms(t *testing.T) {
	hold := func(s string) {
		if got, want := parseOf(s), parseTold(s); got != want {
			t.Errorf("Parse(%q): %q, %d, not %q, %d", s, got.a, got.e, want.a, want.e)
		}
	}
	for c := range 256 {
		for _, x := range [][2]string{{"", ""}, {"", "@d"}, {"u", "@d"}, {"", "u@d"}, {"u@d", ""}, {"u@", "d"}, {"u", "d"}, {"\"u", "\"@d"}, {"\"\\", "\"@d"}, {"\"u\"", "d"}, {"\"u\"", "@d"}, {"u@[1.2.3.4", ""}} {
			hold(x[0] + one(c) + x[1])
		}
	}
	every("u@.", 8, hold)
	every("\"\\u@ ", 6, func(s string) {
		hold(s)
		hold(s + "@d")
		hold("\"" + s + "\"@d")
	})
	for seed := range uint64(20000) {
		hold(random(seed, int(seed%9), "u", "d", "\"", "\"", "\\", "@", ".", "-", " ", long(64), "[1.2.3.4]", "é"))
		hold(random(seed, int(seed%4), long(63), "u", ".") + "@" + random(seed+1, int(seed%5), long(63), "d", ".", "-"))
	}
}

// P5.1: an address's text; quoted, where Local is no dot-atom.
func TestText(t *testing.T) {
	for want, a := range map[string]api.Addr{
		"u@d": {Local: "u", Domain: "d"}, "U.v+w@D.Org": {Local: "U.v+w", Domain: "D.Org"}, `"a b"@D.org`: {Local: "a b", Domain: "D.org"}, `"\""@d`: {Local: `"`, Domain: "d"},
		`"\\"@d`: {Local: `\`, Domain: "d"}, `"."@d`: {Local: ".", Domain: "d"}, `"u."@d`: {Local: "u.", Domain: "d"}, `".u"@d`: {Local: ".u", Domain: "d"}, `"u..v"@d`: {Local: "u..v", Domain: "d"},
		`"u@v"@d`: {Local: "u@v", Domain: "d"}, `"(u)"@d`: {Local: "(u)", Domain: "d"}, "u@[1.2.3.4]": {Local: "u", Domain: "[1.2.3.4]"}, `"\"u\""@d`: {Local: `"u"`, Domain: "d"}, `" "@d`: {Local: " ", Domain: "d"},
		"PostMaster@d": {Local: "PostMaster", Domain: "d"}, long(64) + "@" + name(255): {Local: long(64), Domain: name(255)}, `"` + strings.Repeat(`\\`, 64) + `"@d`: {Local: strings.Repeat(`\`, 64), Domain: "d"},
	} {
		if got := Text(a); got != want {
			t.Errorf("Text(%q): %q, not %q", a, got, want)
		}
	}
	for _, a := range []api.Addr{
		{}, {Local: "u"}, {Domain: "d"}, {Local: "u\tv", Domain: "d"}, {Local: "é", Domain: "d"}, {Local: long(65), Domain: "d"}, {Local: "u", Domain: "d."},
		{Local: "u", Domain: long(64)}, {Local: "u", Domain: name(256)}, {Local: "u", Domain: "[1.2.3]"}, {Local: "u", Domain: "d e"}, {Local: "u\xff", Domain: "d"},
	} {
		if got := Text(a); got != "" {
			t.Errorf("Text(%q): %q", a, got)
		}
	}
}

// P5.2: Domain in lower case, Local as it is, but postmaster's.
func TestNormal(t *testing.T) {
	for _, x := range []struct{ a, want api.Addr }{
		{api.Addr{Local: "u", Domain: "d"}, api.Addr{Local: "u", Domain: "d"}}, {api.Addr{Local: "U.V", Domain: "D.Org"}, api.Addr{Local: "U.V", Domain: "d.org"}},
		{api.Addr{Local: "PostMaster", Domain: "x"}, api.Addr{Local: "postmaster", Domain: "x"}}, {api.Addr{Local: "POSTMASTER", Domain: "X"}, api.Addr{Local: "postmaster", Domain: "x"}},
		{api.Addr{Local: "postmaster", Domain: "x"}, api.Addr{Local: "postmaster", Domain: "x"}}, {api.Addr{Local: "PostMasters", Domain: "x"}, api.Addr{Local: "PostMasters", Domain: "x"}},
		{api.Addr{Local: "PostMaster+X", Domain: "x"}, api.Addr{Local: "PostMaster+X", Domain: "x"}}, {api.Addr{Local: " PostMaster", Domain: "x"}, api.Addr{Local: " PostMaster", Domain: "x"}},
		{api.Addr{Local: "ostMaster", Domain: "x"}, api.Addr{Local: "ostMaster", Domain: "x"}}, {api.Addr{Local: "u", Domain: "[1.2.3.4]"}, api.Addr{Local: "u", Domain: "[1.2.3.4]"}},
		// One that may not be has a normal form, too.
		{api.Addr{}, api.Addr{}}, {api.Addr{Local: "POSTmaster"}, api.Addr{Local: "postmaster"}}, {api.Addr{Domain: "-D_E@ F"}, api.Addr{Domain: "-d_e@ f"}},
		{api.Addr{Local: "É\xff", Domain: "ÄB\xffC"}, api.Addr{Local: "É\xff", Domain: "Äb\xffc"}}, {api.Addr{Local: "po\u017ftmaster", Domain: "\u212aK"}, api.Addr{Local: "po\u017ftmaster", Domain: "\u212ak"}},
		{api.Addr{Local: long(100), Domain: strings.Repeat("X", 400)}, api.Addr{Local: long(100), Domain: long(400)}},
	} {
		if got := Normal(x.a); got != x.want {
			t.Errorf("Normal(%q): %q, not %q", x.a, got, x.want)
		}
	}
	// In whatever case postmaster stands.
	for bits := range 1 << 10 {
		local := []byte("postmaster")
		for i := range local {
			local[i] -= byte(bits>>i&1) * 32
		}
		if got := Normal(api.Addr{Local: string(local), Domain: "D"}); got != (api.Addr{Local: "postmaster", Domain: "d"}) {
			t.Errorf("Normal of %q: %q", local, got)
		}
	}
}

// some answers addresses of all kinds, also such that may not be.
func some() []api.Addr {
	var all []api.Addr
	for _, local := range []string{"", "a", "A", "b", "B", "ab", "a\x00", "\xff", "é", " ", "postmaster", "PostMaster", "POSTMASTER", "Postmasters", "z"} {
		for _, domain := range []string{"", "a", "A", "b", "B", "a.b", "A.B", "a-", "ab", "AB", "\xff", "Ä", "ä", "[", "`", "{", "@", "[1.2.3.4]"} {
			all = append(all, api.Addr{Local: local, Domain: domain})
		}
	}
	return all
}

// compareTold is what Compare must answer, told byte by byte.
func compareTold(a, b api.Addr) int {
	lower := func(s string) []byte {
		told := []byte(s)
		for i, c := range told {
			if c >= 'A' && c <= 'Z' {
				told[i] = c + 32
			}
		}
		return told
	}
	local := func(s string) []byte {
		if string(lower(s)) == "postmaster" {
			return lower(s)
		}
		return []byte(s)
	}
	if order := slices.Compare(lower(a.Domain), lower(b.Domain)); order != 0 {
		return order
	}
	return slices.Compare(local(a.Local), local(b.Local))
}

// P5.2: by domains, whatever their case, then by Locals, byte by byte.
func TestSameCompare(t *testing.T) {
	for _, a := range some() {
		for _, b := range some() {
			want := compareTold(a, b)
			if got := Compare(a, b); cmp.Compare(got, 0) != want {
				t.Errorf("Compare(%q, %q): %d, not %d", a, b, got, want)
			}
			if got := Same(a, b); got != (want == 0) {
				t.Errorf("Same(%q, %q): %t", a, b, got)
			}
		}
	}
	ordered := []api.Addr{
		{Local: "z", Domain: "A.org"}, {Local: "B", Domain: "b.org"}, {Local: "a", Domain: "B.ORG"}, {Local: "aa", Domain: "b.org"}, {Local: "b", Domain: "b.org"},
		{Local: "POSTMASTER", Domain: "b.org"}, {Local: "A", Domain: "C.org"}, {Local: "A", Domain: "c.org.x"},
	}
	for i, a := range ordered {
		for j, b := range ordered {
			if got := Compare(a, b); cmp.Compare(got, 0) != cmp.Compare(i, j) || Same(a, b) != (i == j) {
				t.Errorf("Compare(%q, %q): %d", a, b, got)
			}
		}
	}
}

// P5.2: the first + that is not the first byte.
func TestSplit(t *testing.T) {
	for local, want := range map[string][2]string{
		"u+d": {"u", "d"}, "u+x+y": {"u", "x+y"}, "u++": {"u", "+"}, "u+": {"u", ""}, "++": {"+", ""}, "++x": {"+", "x"}, "+++": {"+", "+"}, "+u+d": {"+u", "d"}, "+u+": {"+u", ""},
		"a b+c d": {"a b", "c d"}, "é+\xff": {"é", "\xff"}, "\xff+d": {"\xff", "d"}, "\xc3+\xa9": {"\xc3", "\xa9"}, "\x00+": {"\x00", ""}, "U+D": {"U", "D"}, "u@v+w": {"u@v", "w"},
		long(40000) + "+" + long(9): {long(40000), long(9)},
	} {
		if user, detail, has := Split(local); user != want[0] || detail != want[1] || !has {
			t.Errorf("Split(%q): %q, %q, %t", local, user, detail, has)
		}
	}
	for _, local := range []string{"", "u", "+", "+u", "+u.v", "u-v", "u=v", "é", "\xff", "\xab", "a b", "u\uff0bv"} {
		if user, detail, has := Split(local); user != local || detail != "" || has {
			t.Errorf("Split(%q): %q, %q, %t", local, user, detail, has)
		}
	}
}

// P5.2: one byte at least, whichever, a point, and the other, but for case.
func TestBelow(t *testing.T) {
	for _, x := range [][2]string{
		{"x.y", "y"}, {"x.y.Z", "y.z"}, {"X.Y.z", "y.Z"}, {"x.y.z", "z"}, {"xx.y", "y"}, {"..y", "y"}, {"\xff.y", "y"}, {" .y", "y"}, {"-.y", "Y"}, {"\x00.Y", "y"}, {"é.Ä", "Ä"},
		// Whatever texts these are.
		{"x.", ""}, {"..", ""}, {"x..y", ".y"}, {"x..", "."}, {"...", "."}, {"a.\xffB", "\xffb"}, {"y.y", "y"}, {"x.@", "@"}, {"x.[1.2.3.4]", "[1.2.3.4]"},
	} {
		if !Below(x[0], x[1]) {
			t.Errorf("Below(%q, %q): false", x[0], x[1])
		}
	}
	for _, x := range [][2]string{
		{"", ""}, {".", ""}, {"x", ""}, {"", "y"}, {"y", "y"}, {".y", "y"}, {"xy", "y"}, {"xy.z", "y.z"}, {"y.z", "y.z"}, {".y.z", "y.z"}, {"y", "x.y"}, {"x.y", "x"}, {"x.y.z", "y"},
		{"x.y ", "y"}, {"x.y.", "y"}, {"x-y", "y"}, {"x.Ä", "ä"}, {"x.\u212a", "k"}, {"x.@", "`"}, {"x.\xff", "\ufffd"}, {"x.\xff", "\xfe"}, {"..", "."}, {"x.yy", "y"},
	} {
		if Below(x[0], x[1]) {
			t.Errorf("Below(%q, %q)", x[0], x[1])
		}
	}
	var texts []string
	every("yY.", 4, func(s string) { texts = append(texts, s) })
	for _, domain := range texts {
		for _, over := range texts {
			want := len(domain) > len(over)+1 && strings.EqualFold(domain[len(domain)-len(over)-1:], "."+over)
			if Below(domain, over) != want {
				t.Errorf("Below(%q, %q): not %t", domain, over, want)
			}
		}
	}
}

// thereAndBack holds that an address that may be is what its text is read as,
// and that one that may not be has no text.
func thereAndBack(t *testing.T, a api.Addr) {
	t.Helper()
	s := Text(a)
	if !May(a) {
		if s != "" {
			t.Errorf("Text(%q): %q", a, s)
		}
		return
	}
	if got := parseOf(s); s == "" || got != (parsed{a, api.OK}) {
		t.Errorf("Parse(%q): %q, %d, not %q", s, got.a, got.e, a)
	}
}

// P5.3: there and back.
func TestThereAndBack(t *testing.T) {
	for _, a := range some() {
		thereAndBack(t, a)
	}
	every("\"\\u@.+ ", 5, func(local string) {
		thereAndBack(t, api.Addr{Local: local, Domain: "d.E"})
		thereAndBack(t, api.Addr{Local: local, Domain: "[127.0.0.1]"})
	})
	every("d-.[]1", 5, func(domain string) { thereAndBack(t, api.Addr{Local: "u v", Domain: domain}) })
	for c := range 256 {
		thereAndBack(t, api.Addr{Local: one(c), Domain: "d"})
		thereAndBack(t, api.Addr{Local: "a." + one(c) + "b", Domain: "d"})
		thereAndBack(t, api.Addr{Local: strings.Repeat(one(c), 64), Domain: name(255)})
	}
}

// P5.3: whatever is read may be, and has a text that is read as it.
func TestReadAgain(t *testing.T) {
	read := 0
	for seed := range uint64(60000) {
		local := random(seed, 1+int(seed%6), "u", "V", ".", "+", `\"`, `\\`, `\u`, " ", "@", "postMaster")
		if seed%2 == 0 {
			local = `"` + local + `"`
		}
		s := local + "@" + random(seed+1, 1+int(seed%3), "d", "E.f", ".", "x-y", "[1.2.3.4]")
		a, e := Parse(s)
		if e != api.OK {
			continue
		}
		read++
		if !May(a) {
			t.Errorf("May(%q), of %q: false", a, s)
		}
		thereAndBack(t, a)
		thereAndBack(t, Normal(a))
	}
	if read < 1000 {
		t.Errorf("only %d were read", read)
	}
}

// P5.3: the same have the same normal form, and that is its own; it may be just
// when they may.
func TestNormalOnce(t *testing.T) {
	for _, a := range some() {
		n := Normal(a)
		if Normal(n) != n || !Same(a, n) || !Same(n, a) || Compare(a, n) != 0 || May(n) != May(a) {
			t.Errorf("Normal(%q): %q", a, n)
		}
		for _, b := range some() {
			if Same(a, b) != (n == Normal(b)) {
				t.Errorf("Same(%q, %q): %t", a, b, Same(a, b))
			}
		}
	}
}

// P5.4: of any two one is ahead or both are the same, of any three in one order.
func TestCompareAll(t *testing.T) {
	all := some()
	order := func(i, j int) int { return cmp.Compare(Compare(all[i], all[j]), 0) }
	for i := range all {
		for j := range all {
			if order(i, j) != -order(j, i) {
				t.Errorf("Compare of %q and %q, and of both the other way round", all[i], all[j])
			}
		}
	}
	slices.SortFunc(all, Compare)
	for i := range all {
		for j := i + 1; j < len(all); j++ {
			if order(i, j) > 0 {
				t.Errorf("%q stands ahead of %q", all[i], all[j])
			}
		}
	}
}

// P5.4: user, + and detail are the Local again.
func TestSplitWhole(t *testing.T) {
	hold := func(local string) {
		user, detail, has := Split(local)
		plus := ""
		if has {
			plus = "+"
		}
		if user+plus+detail != local {
			t.Errorf("Split(%q): %q, %q, %t", local, user, detail, has)
		}
		if has && (user == "" || strings.Contains(user[1:], "+")) || !has && (detail != "" || strings.LastIndex(local, "+") > 0) {
			t.Errorf("Split(%q): %q, %q, %t", local, user, detail, has)
		}
	}
	every("u+. \xff", 6, hold)
	for c := range 256 {
		hold(one(c))
		hold(one(c) + "+" + one(c))
		hold("+" + one(c) + "+")
	}
}

// P5.1: whatever bytes: each call answers, and an answer that may be is one.
func TestAnyBytes(t *testing.T) {
	bytes := make([]string, 256)
	for c := range bytes {
		bytes[c] = one(c)
	}
	for seed := range uint64(5000) {
		s := random(seed, int(seed%50), bytes...)
		if got, want := parseOf(s), parseTold(s); got != want {
			t.Errorf("Parse(%q): %q, %d", s, got.a, got.e)
		}
		a := api.Addr{Local: s, Domain: s}
		thereAndBack(t, a)
		if !Same(a, a) || Compare(a, a) != 0 || Below(s, s) {
			t.Errorf("of %q", a)
		}
	}
}
