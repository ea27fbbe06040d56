package list

import (
	"math/rand/v2"
	"regexp"
	"slices"
	"strconv"
	"strings"
	"testing"

	"postrider/addr"
	"postrider/api"
)

// one answers the text of that one byte.
func one(c int) string { return string([]byte{byte(c)}) }

// every calls do with each text of up to that many pieces.
func every(many int, do func(string), pieces ...string) {
	do("")
	if many == 0 {
		return
	}
	for _, piece := range pieces {
		every(many-1, func(s string) { do(piece + s) }, pieces...)
	}
}

// long answers a text of so many letters.
func long(many int) string { return strings.Repeat("x", many) }

// name answers a domain of so many bytes, whose labels may be.
func name(many int) string {
	return strings.Repeat(long(49)+".", 10)[:many-1] + "z"
}

// many answers a list of so many addresses.
func many(n int) string {
	all := make([]string, n)
	for i := range all {
		all[i] = "u" + strconv.Itoa(i) + "@x"
	}
	return strings.Join(all, ",")
}

// nested answers a comment so many deep.
func nested(deep int) string {
	return strings.Repeat("(", deep) + strings.Repeat(")", deep)
}

// addrs answers the addresses of the spots.
func addrs(spots []Spot) []api.Addr {
	var l []api.Addr
	for _, spot := range spots {
		l = append(l, spot.Addr)
	}
	return l
}

// at answers addresses, each told as Local and Domain.
func at(parts ...string) []api.Addr {
	var l []api.Addr
	for pair := range slices.Chunk(parts, 2) {
		l = append(l, api.Addr{Local: pair[0], Domain: pair[1]})
	}
	return l
}

// same tells whether the addresses of both lists are the same, one by one.
func same(l, m []api.Addr) bool { return slices.EqualFunc(l, m, addr.Same) }

// between answers the bytes of a list that stand in none of the spots.
func between(s string, spots []Spot) []string {
	var parts []string
	from := 0
	for _, spot := range spots {
		parts = append(parts, s[from:spot.From])
		from = spot.To
	}
	return append(parts, s[from:])
}

// The forms of the words, told as expressions.
var (
	blankForm   = `(?:[ \t]|` + commentForm(8) + `)*`
	wordForm    = "(?:" + `"(?:[ !#-\[\]-~]|\\[ -~])*"` + "|[0-9A-Za-z!#$%&'*+\\-/=?^_`{|}~.]+)"
	domainForm  = `(?:\[[^\]]*\]|[0-9A-Za-z.-]+)`
	addressForm = wordForm + `@` + domainForm
	phraseForm  = wordForm + `(?:` + blankForm + wordForm + `)*`
	routeForm   = `@` + domainForm + `(?:,@` + domainForm + `)*:`
	angleForm   = `<` + blankForm + `(?:` + routeForm + blankForm + `)?` + addressForm + blankForm + `>`
	mailboxForm = `(?:` + addressForm + `|(?:` + phraseForm + blankForm + `)?` + angleForm + `)`
	boxesForm   = blankForm + `(?:` + mailboxForm + blankForm + `)?`
	groupForm   = phraseForm + blankForm + `:` + boxesForm + `(?:,` + boxesForm + `)*;`
	memberForm  = blankForm + `(?:(?:` + mailboxForm + `|` + groupForm + `)` + blankForm + `)?`

	listForm = regexp.MustCompile(`^` + memberForm + `(?:,` + memberForm + `)*$`)
	partForm = regexp.MustCompile(`(?s)` + commentForm(8) + `|(` + addressForm + `)|@(` + domainForm + `)|` + wordForm + `|.`)
)

// commentForm answers the form of comments that stand at most so many deep.
func commentForm(deep int) string {
	inside := ""
	if deep > 1 {
		inside = "|" + commentForm(deep-1)
	}
	return `\((?:[\t !-'*-\[\]-~]|\\[ -~]` + inside + `)*\)`
}

// findTold is what Find must answer, told by the words' forms.
func findTold(s string) ([]Spot, api.Errno) {
	if !listForm.MatchString(s) {
		return nil, api.ErrForm
	}
	var spots []Spot
	tooLong := false
	for _, part := range partForm.FindAllStringSubmatchIndex(s, -1) {
		e := api.OK
		if part[2] >= 0 {
			var a api.Addr
			a, e = addr.Parse(s[part[2]:part[3]])
			spots = append(spots, Spot{part[2], part[3], a})
		} else if part[4] >= 0 {
			_, e = addr.Parse("x@" + s[part[4]:part[5]])
		}
		if e == api.ErrForm {
			return nil, e
		}
		tooLong = tooLong || e == api.ErrLong
	}
	if tooLong {
		return nil, api.ErrLong
	}
	if len(spots) > 64 {
		return nil, api.ErrFull
	}
	return spots, api.OK
}

// holdFind holds what Find answers against what is told, and answers whether s is a list.
func holdFind(t *testing.T, s string) bool {
	t.Helper()
	spots, e := Find(s)
	want, wrong := findTold(s)
	if !slices.Equal(spots, want) || e != wrong {
		t.Errorf("Find(%q): %v, %d, not %v, %d", s, spots, e, want, wrong)
	}
	return e == api.OK
}

// holdError holds that Find answers that error alone, and Put of no addresses, too.
func holdError(t *testing.T, s string, want api.Errno) {
	t.Helper()
	if spots, e := Find(s); e != want || len(spots) > 0 {
		t.Errorf("Find(%q): %v, %d, not %d", s, spots, e, want)
	}
	if told, e := Put(s, nil); e != want || told != "" {
		t.Errorf("Put(%q): %q, %d, not %d", s, told, e, want)
	}
}

// lists are lists, and what stands in their spots.
var lists = map[string][]string{
	// The examples.
	"Ann <ann@x.org>, bob@y.org (Bob)": {"ann@x.org", "bob@y.org"},
	`team: a@x, "B" <@r:b@y>;,`:        {"a@x", "b@y"},
	// Nothing, and white space around it.
	"": nil, " ": nil, "\t": nil, ",": nil, ",,,": nil, " , ,\t": nil, "(c)": nil, "(c),(d) ": nil, ",a@b": {"a@b"}, "a@b,": {"a@b"}, ",,a@b,,c@d,,": {"a@b", "c@d"},
	// Addresses.
	"a@b": {"a@b"}, " a@b ": {"a@b"}, "\ta@b\t,\tc@d\t": {"a@b", "c@d"}, "a@b,c@d": {"a@b", "c@d"}, "(c)a@b(d)": {"a@b"}, "(c) a@b (d) (e),(f)c@d": {"a@b", "c@d"},
	"a.b+c@D.Org": {"a.b+c@D.Org"}, "a@[1.2.3.4]": {"a@[1.2.3.4]"}, "a@[1.2.3.4],b@[0.0.0.0] ": {"a@[1.2.3.4]", "b@[0.0.0.0]"}, "a@[1.2.3.4](c)": {"a@[1.2.3.4]"},
	`"a b"@c`: {`"a b"@c`}, `"a,b"@c,"d;e"@f`: {`"a,b"@c`, `"d;e"@f`}, `"<a@b>"@c`: {`"<a@b>"@c`}, `"a\"@b"@c`: {`"a\"@b"@c`}, `"(a"@b`: {`"(a"@b`}, `"a"@b`: {`"a"@b`},
	"!#$%&'*+-/=?^_`{|}~@x": {"!#$%&'*+-/=?^_`{|}~@x"}, "a@b-c.d-e.1": {"a@b-c.d-e.1"}, "1@2": {"1@2"}, "a@b,a@b": {"a@b", "a@b"},
	// Phrases, or nothing, and angles.
	"<a@b>": {"a@b"}, " <a@b> ": {"a@b"}, "< a@b >": {"a@b"}, "<\ta@b(c)>(d)": {"a@b"}, "(c)<(d)a@b(e)>": {"a@b"}, "Ann<a@b>": {"a@b"}, "Ann Bee <a@b>": {"a@b"}, "Ann(c)Bee(d)<a@b>": {"a@b"},
	`"Bee, Ann" <a@b>`: {"a@b"}, `"x@y" <a@b>`: {"a@b"}, `"a""b"<a@b>`: {"a@b"}, `a"b"c<a@b>`: {"a@b"}, `"" <a@b>`: {"a@b"}, "A. B. <a@b>": {"a@b"}, ". <a@b>": {"a@b"}, "..x.. <a@b>": {"a@b"},
	"Ann <a@b>,Bob <c@d>": {"a@b", "c@d"}, "<a@b>,<c@d>": {"a@b", "c@d"}, `Ann <"a>b"@c>`: {`"a>b"@c`}, "Ann <a@[1.2.3.4]>": {"a@[1.2.3.4]"}, long(5000) + " <a@b>": {"a@b"}, `"` + long(5000) + `" <a@b>`: {"a@b"},
	// Routes.
	"<@r:a@b>": {"a@b"}, "<@r,@s:a@b>": {"a@b"}, "<@r.s,@t-u,@[1.2.3.4]:a@b>": {"a@b"}, "< @r:a@b >": {"a@b"}, "<@r: a@b>": {"a@b"}, "<(c)@r,@s:(d)a@b(e)>": {"a@b"}, "Ann <@r:a@b>, <@s:c@d>": {"a@b", "c@d"},
	`<@r:"a:b"@c>`: {`"a:b"@c`}, "<" + strings.Repeat("@r,", 20) + "@r:a@b>": {"a@b"}, "<@" + long(63) + ":a@b>": {"a@b"}, "<@" + name(255) + ":a@b>": {"a@b"},
	// Groups.
	"g:;": nil, "g: ;": nil, "g:(c);": nil, " g : ; ": nil, "Undisclosed recipients:;": nil, `"a@b":;`: nil, `a "b"(c) d :;(e)`: nil, ".:;": nil, "g:;,": nil, "g:;,h:;": nil, ",g:;, ,h: ;": nil,
	"g:a@b;": {"a@b"}, "g: a@b , c@d ;": {"a@b", "c@d"}, "g:Ann <a@b>,<c@d>;": {"a@b", "c@d"}, "g:<@r:a@b>;": {"a@b"}, "a@b,g:c@d;,e@f": {"a@b", "c@d", "e@f"}, "g:a@b;,h:c@d;(x)": {"a@b", "c@d"}, `g(c):(d)"a;b"@c(e);`: {`"a;b"@c`}, "g:a@[1.2.3.4];": {"a@[1.2.3.4]"},
	// Mailboxes of a group, or nothing, a comma between.
	"g:,;": nil, "g: , (c) ,;": nil, "g:a@b,;": {"a@b"}, "g:,a@b;": {"a@b"}, "g:,a@b,,c@d, ;,": {"a@b", "c@d"},
	// White space that may be.
	nested(8) + "a@b" + nested(8): {"a@b"}, `(\)\()a@b(\\)`: {"a@b"}, "(<x@y>, z@z)a@b": {"a@b"}, "(\")a@b(\")": {"a@b"}, "(a\tb)\t a@b": {"a@b"}, "( , ; : < > @ )": nil,
}

// P8.1: where the addresses of lists stand, and which they are.
func TestFind(t *testing.T) {
	for s, want := range lists {
		spots, e := Find(s)
		if e != api.OK || len(spots) != len(want) {
			t.Errorf("Find(%q): %v, %d, not %q", s, spots, e, want)
			continue
		}
		for i, spot := range spots {
			a, _ := addr.Parse(want[i])
			if s[spot.From:spot.To] != want[i] || spot.Addr != a {
				t.Errorf("Find(%q): at %d %v, not %q", s, i, spot, want[i])
			}
		}
		holdFind(t, s)
	}
	for s, want := range map[string][]Spot{
		"Ann <ann@x.org>, bob@y.org (Bob)": {{5, 14, api.Addr{Local: "ann", Domain: "x.org"}}, {17, 26, api.Addr{Local: "bob", Domain: "y.org"}}},
		` "a\b"@C,<@r:d@e>`:                {{1, 8, api.Addr{Local: "ab", Domain: "C"}}, {13, 16, api.Addr{Local: "d", Domain: "e"}}},
	} {
		if spots, e := Find(s); e != api.OK || !slices.Equal(spots, want) {
			t.Errorf("Find(%q): %v, %d", s, spots, e)
		}
	}
}

// noLists are no address lists, whatever the lengths of addresses.
var noLists = []string{
	// No mailbox, no group.
	"a", "a b c", "Ann", `"a"`, `"a b"`, ".", "a,b@c", "b@c,a", "a@b c", "a@b c@d", "a@b <c@d>", "a@b<c@d>", "Ann a@b", `"Ann" a@b`, `"Ann"a@b`, "a@b Ann", "a@b;", "a@b:", "a@b>", ";", ":", ">", "<", "@", "a@b;,c@d", "a@b,;", "a@b\"c\"",
	"<a@b> c", "<a@b> c@d", "<a@b><c@d>", "<a@b>;", "<a@b>>", "<<a@b>>", "x <a@b", "<a@b", "a@b>", "<>", "< >", "<(c)>", "Ann <>", "Ann <Bob>", "<a>", "<a b@c>", "<Ann <a@b>>", "<a@b,c@d>", "<a@b;>", "<,>", "<a@b c>",
	// Addresses that may not be.
	"@", "@b", "a@", "a@@b", "a@b@c", "a@.", "a@b.", "a@.b", "a@b..c", "a@-b", "a@b-", "a@b_c", "a@é", "é@b", ".a@b", "a.@b", "a..b@c", `""@b`, `"a"."b"@c`, `"a".b@c`, `a."b"@c`, `"a"b@c`, `a"b"@c`, "a@\"b\"", "a\\b@c", "[a]@b", "a;b@c", "a:b@c",
	"a@[", "a@]", "a@[]", "a@[1.2.3.4", "a@[1.2.3]", "a@[1.2.3.256]", "a@[1.2.3.04]", "a@[[1.2.3.4]", "a@[1.2.3.4]]", "a@[1.2.3.4]x", "a@[1.2.3.4].x", "a@x[1.2.3.4]", "a@[ 1.2.3.4]", "a@[a@b]", "a@[x", "a@[(c)1.2.3.4]", "a@[1.2.3.4]b@c", "a@[1.2.3.4]\"b\"",
	"<@b>", "<a@>", "<.a@b>", "<a@-b>", "<a@[1.2.3]>", `<""@b>`, "<a@b@c>",
	// White space within.
	"a @b", "a@ b", "a (c)@b", "a@(c)b", "a(c)@b", "a@b .c", "a@b. c", "a@b.(c)d", "a .b@c", `"a" @b`, "a@[1.2. 3.4]", "<a @b>", "<a@ b>", "<a@b .c>", "<@r,@s :a@b>", "<@r ,@s:a@b>", "<@r, @s:a@b>", "<@ r:a@b>", "<@r(c):a@b>", "<@r,(c)@s:a@b>", "<@(c)r:a@b>",
	// Routes that may not be.
	"<@r>", "<@r:>", "<@r:,a@b>", "<@r a@b>", "<@ra@b>", "<@:a@b>", "<@r,:a@b>", "<@r,s:a@b>", "<r:a@b>", "<,@r:a@b>", "<@r,,@s:a@b>", "<@r@s:a@b>", "<@@r:a@b>", "<@r::a@b>", "<:a@b>", "<@r:@s:a@b>", "<@r;a@b>", "<@r,@:a@b>", "<@r", "<@r:", "<@r,", "<@", "@r:a@b", "Ann @r:a@b", "<@r:a@b", "<@r:Ann <a@b>>",
	"<@-r:a@b>", "<@r-:a@b>", "<@r.:a@b>", "<@.r:a@b>", "<@r..s:a@b>", "<@.:a@b>", "<@r_s:a@b>", "<@\"r\":a@b>", "<@[1.2.3]:a@b>", "<@[1.2.3.256]:a@b>", "<@[]:a@b>", "<@[:a@b>", "<@[1.2.3.4:a@b>", "<@[1.2.3.4]x:a@b>", "<@[r]:a@b>", "<@é:a@b>", "<@r,@-s:a@b>", "<@-r,@s:a@b>", "<@x@r:a@b>",
	// Groups that may not be.
	"g", "g:", "g: ", "g:a@b", "g:a@b,", ":;", ": a@b;", "(c):;", ",:;", "g;", "g::;", "g:;;", "g:; ;", "g:;h:;", "g:; h:;", "g:;a@b", "g:; a@b", "g:;<a@b>", "a@b g:;", "g:h:;;", "g:h:a@b;;", "g:a@b,h:c@d;;", "g:a;", "g:a b;", "g:a@b c@d;", "g:a@b:;", "g:a@b>;", "g:<a@b;", "g:<a@b;>", "<g:a@b;>", "g@x:;", "g:a@b;,h", "g,h:;", "a@b:;", "g:a@b)", "g (:;", "g:\";",
	// Comments, and quoted strings, that may not be.
	"(", "(a", ")", "a@b)", "(a@b", "a@b(", "a@b (", "a@b (c", "a@b,(c", "(a))", "((a)", "(é)", "a@b(\x00)", "a@b(\\)", "a@b(\\\t)", "(\\é)", nested(9), nested(9) + "a@b", "a@b" + nested(9), "a@b," + nested(9), "g:" + nested(9) + ";", "<" + nested(9) + "a@b>", "<a@b" + nested(9) + ">", "<@r:" + nested(9) + "a@b>", "Ann " + nested(9) + "<a@b>", "g" + nested(9) + ":;", "g:;" + nested(9), " " + nested(9), "(c)" + nested(9) + "a@b",
	`"`, `"a`, `"a@b`, `"a" "b`, `"a" "b <a@b>`, `"a\" <a@b>`, `"a\"@b`, "\"a\tb\" <a@b>", "\"é\" <a@b>", "\"é\"@b", "\"a\x00\"@b", "\"a\\\t\" <a@b>", "\"a\r\n b\" <a@b>", `a" <a@b>`, `"a"" <a@b>`,
	// Bytes that stand nowhere.
	"\r\n", "a@b\r\n", "a@b,\r\n c@d", "\n", "\x00", "\x7f", "\xff", "é", "a@b\xff", "\xffa@b", "é <a@b>", "\\", "[", "]", "\\a@b", "\v", "\f", "\u00a0", "a@b\u00a0",
}

// P8.1: what is no address list.
func TestFindForm(t *testing.T) {
	for _, s := range noLists {
		holdError(t, s, api.ErrForm)
		holdError(t, "x@y, "+s, api.ErrForm)
		if _, e := findTold(s); e != api.ErrForm {
			t.Errorf("of %q no error is told", s)
		}
	}
}

// longs are lists, but for the lengths of addresses or of routes' domains.
var longs = []string{
	long(65) + "@b", `"` + long(65) + `"@b`, "a@" + long(64), "a@b." + long(64) + ".c", "a@" + name(256), "<" + long(65) + "@b>", "Ann <a@" + long(64) + ">", `"` + strings.Repeat(`\"`, 65) + `"@b`, long(40000) + "@b", "a@" + long(40000),
	"g:" + long(65) + "@b;", "g: Ann <" + long(65) + "@b> ;", "a@b," + long(65) + "@b", long(65) + "@b,a@b", long(65) + "@" + long(64), "<@" + long(64) + ":a@b>", "<@" + name(256) + ":a@b>", "<@r,@" + long(64) + ":a@b>", "<@" + long(64) + ",@r:a@b>",
	"<@r:" + long(65) + "@b>", "g:<@" + long(64) + ":a@b>;", "a@b,<@" + long(64) + ":a@b>", "<@" + long(64) + ":a@b>,c@d", "<@" + long(64) + ":" + long(65) + "@b>",
}

// P8.1: addresses, and routes' domains, that are too long, ahead of too many of them.
func TestFindLong(t *testing.T) {
	for _, s := range longs {
		holdError(t, s, api.ErrLong)
		holdError(t, s+","+many(80), api.ErrLong)
		holdError(t, many(80)+","+s, api.ErrLong)
		holdError(t, "g:;, "+s, api.ErrLong)
	}
	for _, s := range []string{
		long(64) + "@b", `"` + long(64) + `"@b`, "a@" + long(63), "a@" + name(255), `"` + strings.Repeat(`\"`, 64) + `"@b`, long(64) + "@" + name(255), "<@" + name(255) + ":" + long(64) + "@" + name(255) + ">",
	} {
		if spots, e := Find(s); e != api.OK || len(spots) != 1 {
			t.Errorf("Find(%q): %v, %d", s, spots, e)
		}
	}
}

// P8.1: the form of all goes ahead of the length of any, and of how many there are.
func TestFindFormAhead(t *testing.T) {
	for _, s := range append(noLists, "a@b;", "("+long(300), long(65)+"@-b", "<@"+long(64)+"_:a@b>", "<@"+long(64)+",@-r:a@b>", "<@"+long(64)+":a>", "<@"+long(64)+">", "<"+long(65)+"@b", long(65)+"@[1.2.3]", long(65)+"@b c", "a@"+long(64)+".", "a@"+long(64)+"_") {
		holdError(t, long(65)+"@b, "+s, api.ErrForm)
		holdError(t, "<@"+long(64)+":a@b>, "+s, api.ErrForm)
		holdError(t, many(65)+","+s, api.ErrForm)
	}
	for _, s := range noLists {
		// What stands open at its end, or ahead, takes in what stands behind.
		if _, e := findTold(s + ",a@b"); e == api.ErrForm {
			holdError(t, s+","+long(65)+"@b,"+many(65), api.ErrForm)
		}
	}
}

// P8.1: more addresses than Most.
func TestFindFull(t *testing.T) {
	if Most != 64 {
		t.Errorf("Most: %d", Most)
	}
	for _, n := range []int{1, 2, 63, 64} {
		if spots, e := Find(many(n)); e != api.OK || len(spots) != n {
			t.Errorf("of %d: %d, %d", n, len(spots), e)
		}
		if spots, e := Find("g:" + many(n) + ";" + strings.Repeat(",", 100)); e != api.OK || len(spots) != n {
			t.Errorf("of a group of %d: %d, %d", n, len(spots), e)
		}
	}
	for _, s := range []string{
		many(65), many(66), many(1000), "g:" + many(65) + ";", "g:" + many(64) + ";,a@b", "a@b,g:" + many(64) + ";", "g:" + many(32) + ";,h:" + many(33) + ";", many(65) + ",", "Ann <a@b>," + many(64), strings.Repeat("a@b,", 65),
	} {
		holdError(t, s, api.ErrFull)
	}
	// Neither members nor words, but addresses are counted.
	for _, s := range []string{strings.Repeat(",", 1000), strings.Repeat("g:;,", 100), strings.Repeat("a ", 1000) + "<a@b>", "<" + strings.Repeat("@r,", 100) + "@r:a@b>"} {
		if _, e := Find(s); e != api.OK {
			t.Errorf("Find(%q): %d", s, e)
		}
	}
}

// P8.1: all short texts of the parts that lists are made of.
func TestFindEvery(t *testing.T) {
	found := 0
	hold := func(s string) {
		if holdFind(t, s) {
			found++
		}
	}
	every(6, hold, "a", "@", ",", ":", ";", "<", ">", " ")
	every(6, func(s string) { hold("<" + s + "c@d>") }, "@", "r", ",", ":", " ", "[1.2.3.4]")
	every(5, func(s string) { hold("g" + s + ";") }, ":", "a@b", ",", "<a@b>", ";", " ", "h", `"`)
	every(5, hold, `"`, `"a"`, "a", ".", "@", "@x", "<b@c>", "(", ")", `\`)
	every(5, hold, "a@", "[", "]", "1.2.3.4", "x", "-", ".", "(", ")", ",")
	if found < 2000 {
		t.Errorf("only %d are lists", found)
	}
}

// P8.1: each byte, at each place.
func TestFindBytes(t *testing.T) {
	for c := range 256 {
		for _, s := range []string{"", `"B" (c) <@r,@s:a@b.c>, g: d@[1.2.3.4], "e f"@g;, h`} {
			for i := range len(s) + 1 {
				holdFind(t, s[:i]+one(c)+s[i:])
				holdFind(t, s[:i]+one(c)+s[min(i+1, len(s)):])
			}
		}
		for _, s := range []string{"#@x", "a#b@x", "a@#", "a@x#y", "a@x#", "#a@x", `"#"@x`, `"\#"@x`, "# <a@x>", "a# <a@x>", "#: a@x;", "(#)", `(\#)`, "<@#:a@x>", "<@r#s:a@x>", "<@r#:a@x>", "<#a@x>", "<a@x#>", "a@x,#b@y", "g#a@x;", "a@[1.2.3.4]#", "a@[#]"} {
			holdFind(t, strings.ReplaceAll(s, "#", one(c)))
		}
	}
}

// maker makes lists by chance, the same ones each time.
type maker struct{ *rand.Rand }

func newMaker(seed uint64) maker { return maker{rand.New(rand.NewPCG(seed, 8))} }

func (m maker) of(pieces ...string) string { return pieces[m.IntN(len(pieces))] }

// rows answers so many of what make tells, with between between.
func (m maker) rows(many int, between func() string, make func() string) string {
	var b strings.Builder
	for i := range many {
		if i > 0 {
			b.WriteString(between())
		}
		b.WriteString(make())
	}
	return b.String()
}

func (m maker) blank() string {
	return m.of("", "", "", " ", "\t ", "(c)", " (a@b, (c;) \\)) ", nested(8), "(\")(\t)")
}

func (m maker) domain() string {
	return m.of("x", "Home.org", "a-b.1", "[1.2.3.4]", "[0.10.200.255]", long(63), name(255))
}

func (m maker) address() string {
	return m.of("a", "B.c", "postMaster", "u+v", "!#$", `"a b"`, `"d,\"e"`, `"(;<@>:"`, `"f"`, `"\g"`, long(64)) + "@" + m.domain()
}

func (m maker) word() string { return m.of("Ann", "J.", "..", "a.b-c", `"x, y"`, `""`, `"<a@b>"`) }

func (m maker) phrase() string { return m.rows(1+m.IntN(3), m.blank, m.word) }

func (m maker) mailbox() string {
	if m.IntN(2) == 0 {
		return m.address()
	}
	s := "<" + m.blank()
	if m.IntN(2) == 0 {
		s += m.rows(1+m.IntN(3), func() string { return "," }, func() string { return "@" + m.domain() }) + ":" + m.blank()
	}
	s += m.address() + m.blank() + ">"
	if m.IntN(3) == 0 {
		return s
	}
	return m.phrase() + m.blank() + s
}

func (m maker) member(groups bool) string {
	s := ""
	switch kind := m.IntN(6); {
	case kind == 0 && groups:
		s = m.phrase() + m.blank() + ":" + m.rows(m.IntN(4), func() string { return "," }, func() string { return m.member(false) }) + ";"
	case kind > 1:
		s = m.mailbox()
	}
	return m.blank() + s + m.blank()
}

func (m maker) list() string {
	return m.rows(m.IntN(6), func() string { return "," }, func() string { return m.member(true) })
}

// addrs answers so many addresses.
func (m maker) addrs(many int) []api.Addr {
	l := make([]api.Addr, many)
	for i := range l {
		l[i], _ = addr.Parse(m.address())
	}
	return l
}

// broken answers a text in which something, once or twice, is left out, doubled,
// or another thing.
func (m maker) broken(s string) string {
	for range 1 + m.IntN(2) {
		i := m.IntN(len(s) + 1)
		j := min(i+m.IntN(3), len(s))
		s = s[:i] + m.of("", s[i:j]+s[i:j], ",", ";", ":", "<", ">", "@", "(", ")", `"`, `\`, " ", ".", "[", "]", "a", "\xff") + s[j:]
	}
	return s
}

// P8.1: lists of all kinds, and what is nearly one.
func TestFindRandom(t *testing.T) {
	m := newMaker(1)
	found := 0
	for range 3000 {
		s := m.list()
		if !holdFind(t, s) {
			t.Errorf("Find(%q): no list", s)
		}
		if holdFind(t, m.broken(s)) {
			found++
		}
	}
	if found < 500 || found > 2500 {
		t.Errorf("of 3000 that are broken %d are lists", found)
	}
}

// P8.2: addresses in their spots: the same one stays as it stands.
func TestPut(t *testing.T) {
	for _, r := range []struct {
		s    string
		l    []api.Addr
		want string
	}{
		{"", nil, ""}, {" , (c)", nil, " , (c)"}, {"g: ;", []api.Addr{}, "g: ;"},
		{"a@b", at("c", "d"), "c@d"}, {"a@b", at("a", "b"), "a@b"}, {"a@b", at("a", "B"), "a@b"}, {"a@b", at("A", "b"), "A@b"}, {"a@B", at("a", "b"), "a@B"}, {"a@b", at("a", "c"), "a@c"},
		{"Ann <ann@x.org>, bob@y.org (Bob)", at("c", "z", "d", "[1.2.3.4]"), "Ann <c@z>, d@[1.2.3.4] (Bob)"},
		{"Ann <ann@x.org>, bob@y.org (Bob)", at("ann", "X.ORG", "d", "z"), "Ann <ann@x.org>, d@z (Bob)"},
		{"Ann <ann@x.org>, bob@y.org (Bob)", at("c", "z", "bob", "Y.org"), "Ann <c@z>, bob@y.org (Bob)"},
		{`team: a@x, "B" <@r:b@y>;,`, at("c d", "z", "e", "v"), `team: "c d"@z, "B" <@r:e@v>;,`},
		// The address is the same, whatever its text.
		{`"a"@b`, at("a", "b"), `"a"@b`}, {`"\a"@b`, at("a", "B"), `"\a"@b`}, {`"a"@b`, at("c", "b"), "c@b"}, {`"a b"@c`, at("a b", "c"), `"a b"@c`}, {`"a b"@c`, at("a", "c"), "a@c"}, {`"a\ b"@c`, at("a b", "C"), `"a\ b"@c`},
		{"PostMaster@b", at("postmaster", "B"), "PostMaster@b"}, {`"POSTMASTER"@b`, at("postMaster", "b"), `"POSTMASTER"@b`}, {"postmaster@b", at("Postmasters", "b"), "Postmasters@b"},
		// What is put stands there as its text, its case kept.
		{"a@b", at(`q"\`, "D.org"), `"q\"\\"@D.org`}, {"a@b", at("a..b", "c"), `"a..b"@c`}, {"a@b", at(" ", "c"), `" "@c`}, {"a@b", at("PostMaster", "c"), "PostMaster@c"}, {"a@b", at(long(64), name(255)), long(64) + "@" + name(255)},
		// Lists in order, also of the same ones.
		{"a@b,a@b,a@b", at("a", "b", "c", "d", "a", "b"), "a@b,c@d,a@b"}, {"a@b, c@d", at("c", "d", "a", "b"), "c@d, a@b"}, {"a@b, c@d", at("e", "f", "e", "f"), "e@f, e@f"},
		{"g:a@b,,(c)d@e ;,(f)", at("x", "y", "v", "w"), "g:x@y,,(c)v@w ;,(f)"}, {"< a@b >,<@r,@s:\tc@d(e)>", at("x", "y", "v", "w"), "< x@y >,<@r,@s:\tv@w(e)>"},
	} {
		if got, e := Put(r.s, r.l); got != r.want || e != api.OK {
			t.Errorf("Put(%q, %q): %q, %d, not %q", r.s, r.l, got, e, r.want)
		}
	}
	if got, e := Put(many(64), newMaker(2).addrs(64)); e != api.OK || got == many(64) {
		t.Errorf("Put in 64 spots: %q, %d", got, e)
	}
}

// notMay are addresses that may not be.
var notMay = at("", "", "a", "", "", "b", "a", "-b", "a", "b.", "é", "b", "a\tb", "c", long(65), "b", "a", long(64), "a", name(256), "a", "[1.2.3]", "a", "b c", "\x00", "b")

// P8.2: what is no list goes ahead of all; an address that may not be ahead of
// what is too long, or too much; how many there are stands behind that.
func TestPutErrors(t *testing.T) {
	hold := func(s string, l []api.Addr, want api.Errno) {
		t.Helper()
		if told, e := Put(s, l); told != "" || e != want {
			t.Errorf("Put(%q, %q): %q, %d, not %d", s, l, told, e, want)
		}
	}
	for _, bad := range notMay {
		hold("a@b;", []api.Addr{bad}, api.ErrForm)
		hold("a@b c", []api.Addr{bad}, api.ErrForm)
		hold(long(65)+"@b;", []api.Addr{bad}, api.ErrForm)
		hold(many(65)+";", []api.Addr{bad}, api.ErrForm)
		hold(long(65)+"@b", []api.Addr{bad}, api.ErrArg)
		hold("<@"+long(64)+":a@b>", []api.Addr{bad, bad}, api.ErrArg)
		hold(many(65), []api.Addr{bad}, api.ErrArg)
		hold("", []api.Addr{bad}, api.ErrArg)
		hold("a@b", []api.Addr{bad}, api.ErrArg)
		hold("a@b,c@d", append(at("a", "b"), bad), api.ErrArg)
		hold("a@b,c@d", append([]api.Addr{bad}, at("a", "b")...), api.ErrArg)
		hold(many(65), append(newMaker(3).addrs(64), bad), api.ErrArg)
	}
	for n := range 5 {
		for k := range 5 {
			l := newMaker(uint64(n)).addrs(k)
			hold("a b", l, api.ErrForm)
			hold(long(65)+"@b,"+many(n), l, api.ErrLong)
			hold(many(n)+",<@"+long(64)+":a@b>", l, api.ErrLong)
			hold(long(65)+"@b,"+many(65), l, api.ErrLong)
			hold(many(65+n), l, api.ErrFull)
			if n != k {
				hold(many(n), l, api.ErrArg)
				hold("g:"+many(n)+";,", l, api.ErrArg)
			}
		}
	}
	hold(many(65), newMaker(4).addrs(65), api.ErrFull)
	hold(many(64), newMaker(4).addrs(65), api.ErrArg)
	hold(many(64), newMaker(4).addrs(63), api.ErrArg)
}

// P8.3: just these addresses, in order, and between them the bytes that stood there.
func TestNothingElseMoves(t *testing.T) {
	m := newMaker(5)
	put := 0
	hold := func(s string) {
		spots, e := Find(s)
		if e != api.OK {
			t.Errorf("Find(%q): %d", s, e)
			return
		}
		l := m.addrs(len(spots))
		for i := range l {
			// Some are the same as those there, though told otherwise.
			if m.IntN(3) == 0 {
				l[i] = addr.Normal(spots[i].Addr)
			}
		}
		told, e := Put(s, l)
		behind, wrong := Find(told)
		if e != api.OK || wrong != api.OK || !same(addrs(behind), l) || !slices.Equal(between(told, behind), between(s, spots)) {
			t.Errorf("Put(%q, %q): %q, %d", s, l, told, e)
			return
		}
		for i, spot := range behind {
			want := addr.Text(l[i])
			if addr.Same(l[i], spots[i].Addr) {
				want = s[spots[i].From:spots[i].To]
			}
			if told[spot.From:spot.To] != want {
				t.Errorf("Put(%q, %q): %q stands at %d", s, l, told[spot.From:spot.To], i)
			}
		}
		put += len(l)
	}
	for s := range lists {
		hold(s)
	}
	for range 5000 {
		hold(m.list())
	}
	if put < 10000 {
		t.Errorf("only %d were put", put)
	}
}

// P8.4: the addresses that are there change nothing.
func TestPutThose(t *testing.T) {
	m := newMaker(6)
	hold := func(s string) {
		spots, e := Find(s)
		if told, wrong := Put(s, addrs(spots)); e != api.OK || wrong != api.OK || told != s {
			t.Errorf("Put of its own into %q: %q, %d, %d", s, told, e, wrong)
		}
	}
	for s := range lists {
		hold(s)
	}
	for range 3000 {
		hold(m.list())
	}
}

// P8.4: a list and a comma and a list have the spots of both.
func TestBothLists(t *testing.T) {
	m := newMaker(7)
	hold := func(s, u string) {
		want, e := Find(s)
		behind, wrong := Find(u)
		if e != api.OK || wrong != api.OK {
			t.Errorf("Find of %q, of %q: %d, %d", s, u, e, wrong)
		}
		for _, spot := range behind {
			want = append(want, Spot{spot.From + len(s) + 1, spot.To + len(s) + 1, spot.Addr})
		}
		if both, e := Find(s + "," + u); e != api.OK || !slices.Equal(both, want) {
			t.Errorf("Find(%q): %v, %d, not %v", s+","+u, both, e, want)
		}
	}
	for s := range lists {
		for u := range lists {
			hold(s, u)
		}
	}
	for range 2000 {
		hold(m.list(), m.list())
	}
	hold(many(32), many(32))
	holdError(t, many(32)+","+many(33), api.ErrFull)
}

// Rules R2, R3: what is handed in stays, and what is answered is new memory.
func TestNewMemory(t *testing.T) {
	l := at("c", "d", "E", "F")
	kept := slices.Clone(l)
	first, _ := Find("a@b,c@d")
	second, _ := Find("a@b,c@d")
	told, _ := Put("a@b,c@d", l)
	first[0] = Spot{}
	l[0] = api.Addr{}
	if second[0] != (Spot{0, 3, api.Addr{Local: "a", Domain: "b"}}) || told != "c@d,E@F" {
		t.Errorf("%v, %q", second, told)
	}
	l[0] = kept[0]
	Put("x@y,z@v", l)
	if !slices.Equal(l, kept) {
		t.Errorf("%q", l)
	}
}

// Rule R1: whatever bytes, however many: each call answers.
func TestAnyBytes(t *testing.T) {
	m := newMaker(9)
	for range 3000 {
		b := make([]byte, m.IntN(40))
		for i := range b {
			b[i] = byte(m.IntN(256))
		}
		s := string(b)
		holdFind(t, s)
		Put(s, []api.Addr{{Local: s, Domain: s}})
	}
	for _, s := range []string{"(", ")", "\"", "\\", "<", "@", "a@", "[", "@[", "<@", "a:", "a@b", "\"\"", ";", "\xff", "<a@b", "(\\", "a@[", "\"a\"@", "<@r,"} {
		holdError(t, strings.Repeat(s, 100000), api.ErrForm)
	}
	for _, s := range []string{",", " ", "()", "a,", "a:;,", "a:,;,"} {
		if spots, e := Find(strings.Repeat(s, 100000)); len(spots) > 0 || (e != api.OK) != (s == "a,") {
			t.Errorf("of many %q: %d, %d", s, len(spots), e)
		}
	}
	holdError(t, strings.Repeat("<a@b>,", 100000), api.ErrFull)
	holdError(t, strings.Repeat("x", 1000000)+"@x", api.ErrLong)
}
