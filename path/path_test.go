package path

import (
	"reflect"
	"regexp"
	"slices"
	"strconv"
	"strings"
	"testing"

	"postrider/addr"
	"postrider/api"
)

// one answers the text of that one byte.
func one(c int) string { return string([]byte{byte(c)}) }

// every calls do with each text of the letters, of up to that many.
func every(letters string, many int, do func(string)) {
	do("")
	if many == 0 {
		return
	}
	for i := range len(letters) {
		every(letters, many-1, func(s string) { do(letters[i:i+1] + s) })
	}
}

// random answers a text of the pieces, another one for each seed.
func random(seed uint64, many int, pieces ...string) string {
	s := ""
	for range many {
		seed = seed*6364136223846793005 + 1442695040888963407
		s += pieces[(seed>>33)%uint64(len(pieces))]
	}
	return s
}

// long answers a text of so many letters.
func long(many int) string { return strings.Repeat("x", many) }

// name answers a domain of so many bytes, whose labels may be.
func name(many int) string {
	return strings.Repeat(long(49)+".", 10)[:many-1] + "z"
}

// routeOf answers a route's text of so many domains.
func routeOf(many int) string {
	return strings.Repeat("@r,", many)[:3*many-1] + ":"
}

// at answers a path of an address.
func at(local, domain string, route ...string) Path {
	return Path{Route: route, Addr: api.Addr{Local: local, Domain: domain}}
}

// same tells whether two paths are the same; a nil route is an empty one.
func same(p, q Path) bool {
	return p.Null == q.Null && p.Post == q.Post && p.Addr == q.Addr && slices.Equal(p.Route, q.Route)
}

// none tells whether a path is the zero one.
func none(p Path) bool { return same(p, Path{}) }

const label = `[0-9A-Za-z](?:[0-9A-Za-z-]*[0-9A-Za-z])?`

var (
	nameForm   = regexp.MustCompile(`^` + label + `(?:\.` + label + `)*$`)
	pathForm   = regexp.MustCompile(`(?s)^<((?:@[^,:>]*(?:,@[^,:>]*)*:)?)((?:"(?:[^"\\]|\\.)*")?[^>]*)>`)
	paramsForm = regexp.MustCompile(`^(?: [0-9A-Za-z-]+(?:=[!-<>-~]+)?)*$`)
	paramForm  = regexp.MustCompile(` ([^ =]+)(?:=([^ ]+))?`)
)

// parseTold is what Parse must answer, told by the words' forms.
func parseTold(s string) (Path, string, api.Errno) {
	found := pathForm.FindStringSubmatch(s)
	if found == nil {
		return Path{}, "", api.ErrForm
	}
	var p Path
	if route := strings.TrimSuffix(found[1], ":"); route != "" {
		p.Route = strings.Split(route[1:], ",@")
	}
	tooLong := len(found[0]) > 256 || len(p.Route) > 8
	for _, domain := range p.Route {
		if !addr.MayDomain(domain) {
			if !nameForm.MatchString(domain) {
				return Path{}, "", api.ErrForm
			}
			tooLong = true
		}
	}
	var e api.Errno
	if found[1] == "" && found[2] == "" {
		p.Null = true
	} else if found[1] == "" && strings.ToLower(found[2]) == "postmaster" {
		p.Post = true
	} else {
		p.Addr, e = addr.Parse(found[2])
	}
	if e == api.OK && tooLong {
		e = api.ErrLong
	}
	if e != api.OK {
		return Path{}, "", e
	}
	return p, s[len(found[0]):], api.OK
}

// holdParse holds what Parse answers against what is told.
func holdParse(t *testing.T, s string) {
	t.Helper()
	p, rest, e := Parse(s)
	want, behind, wrong := parseTold(s)
	if !same(p, want) || rest != behind || e != wrong {
		t.Errorf("Parse(%q): %+v, %q, %d, not %+v, %q, %d", s, p, rest, e, want, behind, wrong)
	}
}

// P6.1: the path, and what stands behind it.
func TestParse(t *testing.T) {
	for s, want := range map[string]Path{
		"<>": {Null: true}, "<postmaster>": {Post: true}, "<Postmaster>": {Post: true}, "<POSTMASTER>": {Post: true}, "<pOSTmASTER>": {Post: true},
		"<a@b.c>": at("a", "b.c"), "<A.b+c@D.Org>": at("A.b+c", "D.Org"), "<a@[127.0.0.1]>": at("a", "[127.0.0.1]"), `<"a b"@Home.org>`: at("a b", "Home.org"),
		`<"a"@b>`: at("a", "b"), `<"\a"@b>`: at("a", "b"), "<postmaster@b>": at("postmaster", "b"), `<"postmaster"@b>`: at("postmaster", "b"),
		"<postmasters@b>": at("postmasters", "b"), "<null@b>": at("null", "b"),
		// Where the address ends: a > in a quoted string ends nothing.
		`<"a>b"@c>`: at("a>b", "c"), `<"a\">b"@c>`: at(`a">b`, "c"), `<">"@c>`: at(">", "c"), `<"\>"@c>`: at(">", "c"), `<"<>"@c>`: at("<>", "c"), `<"a> "@c>`: at("a> ", "c"),
		`<"@x:"@c>`: at("@x:", "c"), `<"a:b,c@d"@e>`: at("a:b,c@d", "e"),
		// Routes.
		"<@x:a@b>": at("a", "b", "x"), "<@x,@y:a@b.c>": at("a", "b.c", "x", "y"), "<@One.org,@two.ORG:bob@far.net>": at("bob", "far.net", "One.org", "two.ORG"),
		"<@[1.2.3.4]:a@b>": at("a", "b", "[1.2.3.4]"), "<@x,@[1.2.3.4],@y:a@b>": at("a", "b", "x", "[1.2.3.4]", "y"), `<@x:"a b"@c>`: at("a b", "c", "x"),
		`<@x:">:,@"@c>`: at(">:,@", "c", "x"), "<@x,@x:a@x>": at("a", "x", "x", "x"), "<@x:postmaster@b>": at("postmaster", "b", "x"), "<@b.c:a@b.c>": at("a", "b.c", "b.c"),
		"<" + routeOf(8) + "a@b>": at("a", "b", "r", "r", "r", "r", "r", "r", "r", "r"), "<@" + long(63) + ":a@b>": at("a", "b", long(63)),
	} {
		for _, behind := range []string{"", " ", ">", " SIZE=5", "x", "<a@b>", " x", "\x00\xff", "\"", "@x:a@b>", ":", ">>", "é"} {
			p, rest, e := Parse(s + behind)
			if !same(p, want) || rest != behind || e != api.OK {
				t.Errorf("Parse(%q): %+v, %q, %d, not %+v", s+behind, p, rest, e, want)
			}
		}
	}
}

// P6.1: what is no path.
func TestParseForm(t *testing.T) {
	for _, s := range []string{
		"", "<", ">", "><", " <>", "a@b", "a@b>", "<a@b", "(a@b)", "[a@b]", "\t<a@b>", "<<a@b>>", "<<a@b>", "<<>>", "x<a@b>", "\"<a@b>\"", "é<>", "\xff",
		"< >", "< a@b>", "<a@b >", "<a@ b>", "<\t>", "<\x00>", "<a>", "<@>", "<a@>", "<@b>", "<a@@b>", "<a@b@c>", "<a b@c>", "<a@b.>", "<.a@b>", "<a@-b>", "<a@b_c>", "<é@b>", "<a@é>",
		"<postmaster", "<postmaster >", "< postmaster>", "<postmaster@>", "<\"postmaster\">", "<postmasters>", "<postmaste>", "<bob>", "<po\u017ftmaster>", "<null>", "<\"\">", "<\"a b\">",
		"<\"\"@b>", "<\"a@b>", "<\"a>@b>", "<\"a\"@b", "<\"a>\"", "<\"a\"b@c>", "<a\"b\"@c>", "<a>b@c>", "<a\">\"@c>", "<\"a\tb\"@c>", "<\"a\\\"@b>", "<\"a\"\"b\"@c>", "<\"é\"@c>", "<\"a\" @c>",
		"<@x:>", "<@x:postmaster>", "<@x>", "<@x:a@b", "<@x:a>", "<@x a@b>", "<@xa@b>", "<@x:@y:a@b>", "<@x,:a@b>", "<@x,y:a@b>", "<x:a@b>", "<x,@y:a@b>", "<@x,@:a@b>", "<@:a@b>", "<:a@b>", "<,@x:a@b>", "<@x,,@y:a@b>", "<@x, @y:a@b>", "<@x ,@y:a@b>", "<@x: a@b>", "< @x:a@b>", "<@x :a@b>",
		"<@x@y:a@b>", "<@@x:a@b>", "<@x_y:a@b>", "<@-x:a@b>", "<@x.:a@b>", "<@[1.2.3]:a@b>", "<@[1.2.3.256]:a@b>", "<@é:a@b>", "<@x;@y:a@b>", "<@x>:a@b>", "<@x>y:a@b>", "<@\"x\":a@b>", "<a@b,@x:c@d>", "<@x,a@b>", "<@x::a@b>",
		// A form that is wrong goes ahead of any length.
		"<" + long(300), "<" + long(300) + ">", "<" + long(65) + "@b.>", "<" + long(65) + "@-b>", "<" + long(255) + " @b>", "<" + routeOf(9) + "a>", "<" + routeOf(9) + ">", "<" + routeOf(9) + "postmaster>", "<" + routeOf(9) + "a@b", "<" + routeOf(200) + "a@b.>",
		"<" + routeOf(9)[:26] + ",x:a@b>", "<" + routeOf(9)[:26] + ",@x_:a@b>", "<\"" + long(300) + "@b>", "<\"" + long(300) + "\t\"@b>", "<a@" + name(256) + ".>", "<a@" + long(64) + "_>",
		// A route's domain that is too long, and is none whatever its length.
		"<@" + long(64) + "_:a@b>", "<@-" + long(64) + ":a@b>", "<@" + long(64) + "-:a@b>", "<@" + long(64) + ".:a@b>", "<@." + long(64) + ":a@b>", "<@x.." + long(64) + ":a@b>", "<@é" + long(64) + ":a@b>", "<@" + name(256) + ".:a@b>", "<@" + name(256) + "_:a@b>",
		"<@[" + long(64) + "]:a@b>", "<@[1.2.3." + strings.Repeat("4", 64) + "]:a@b>", "<@[1.2.3.4]" + long(64) + ":a@b>", "<@\"" + long(64) + "\":a@b>", "<@" + long(64) + "@y:a@b>", "<@@" + long(64) + ":a@b>",
		// A route's domain that is too long, and something else that is wrong in form, ahead of it or behind it.
		"<@" + long(64) + ",@-:a@b>", "<@-,@" + long(64) + ":a@b>", "<@" + long(64) + ",@:a@b>", "<@" + long(64) + ",:a@b>", "<@" + long(64) + ",x:a@b>", "<@" + long(64) + ", @x:a@b>", "<x,@" + long(64) + ":a@b>", "<@x,@" + name(256) + ",@y.:a@b>", "<@[1.2.3.256],@" + name(256) + ":a@b>",
		"<@" + long(64) + ":a@b.>", "<@" + long(64) + ":a>", "<@" + long(64) + ":@b>", "<@" + long(64) + ":.a@b>", "<@" + long(64) + ":\"\"@b>", "<@" + long(64) + ":\"a@b>", "<@" + long(64) + ":" + long(65) + "@b_>", "<@" + name(256) + ":a@" + name(256) + ".>",
		"<@" + long(64) + ":>", "<@" + long(64) + ":postmaster>", "<@" + long(64) + ">", "<@" + long(64), "<@" + long(64) + ":a@b", "<@" + long(64) + ":", "<@" + name(256) + ",@x>", "@" + long(64) + ":a@b>", " <@" + long(64) + ":a@b>", "<" + routeOf(8)[:24] + "@" + long(64) + ":a>", "<@" + long(64) + "," + routeOf(8) + "a_@-b>",
	} {
		for _, behind := range []string{"", " x"} {
			if p, rest, e := Parse(s + behind); e != api.ErrForm || !none(p) || rest != "" {
				t.Errorf("Parse(%q): %+v, %q, %d", s+behind, p, rest, e)
			}
		}
	}
}

// P6.1: what is too long: all of the path, its route, its address.
func TestParseLong(t *testing.T) {
	for _, s := range []string{
		"<" + long(64) + "@" + name(189) + ">", "<a@" + name(252) + ">", "<\"" + strings.Repeat(`\\`, 64) + "\"@" + name(123) + ">", "<" + routeOf(8) + long(64) + "@" + name(165) + ">",
		"<@" + name(124) + ",@" + name(123) + ":a@b>", "<@" + name(249) + ":a@b>", "<\"" + long(64) + "\"@b>", "<a@" + long(63) + ">",
	} {
		p, rest, e := Parse(s + long(300))
		if e != api.OK || rest != long(300) || addr.Text(p.Addr) == "" {
			t.Errorf("Parse(%q): %+v, %q, %d", s, p, rest, e)
		}
	}
	for _, s := range []string{
		"<" + long(64) + "@" + name(190) + ">", "<a@" + name(253) + ">", "<a@" + name(255) + ">", "<\"" + strings.Repeat(`\\`, 64) + "\"@" + name(124) + ">", "<" + routeOf(8) + long(64) + "@" + name(166) + ">",
		"<@" + name(124) + ",@" + name(124) + ":a@b>", "<@" + name(250) + ":a@b>", "<@" + name(200) + ",@" + name(200) + ":a@b>",
		"<" + routeOf(9) + "a@b>", "<" + routeOf(80) + "a@b>", "<" + routeOf(40000) + "a@b>", "<" + routeOf(9) + "\"a b\"@c>",
		"<" + long(65) + "@b>", "<" + long(40000) + "@b>", "<\"" + long(65) + "\"@b>", "<\"" + strings.Repeat(`\"`, 65) + "\"@b>", "<a@" + long(64) + ">", "<a@b." + long(64) + ".c>", "<a@" + name(256) + ">", "<@x:" + long(65) + "@b>", "<@x:a@" + long(64) + ">",
		"<" + routeOf(9) + long(65) + "@" + name(256) + ">",
		// A route's domain, all but for the length of a label, or of the whole: the first, the last, or one between.
		"<@" + long(64) + ":a@b>", "<@" + long(65) + ":a@b>", "<@x,@" + long(64) + ":a@b>", "<@" + long(64) + ",@y:a@b>", "<@x,@" + long(64) + ",@[1.2.3.4]:a@b>", "<@" + long(64) + ",@" + long(64) + ":a@b>", "<@b." + long(64) + ".c:a@b>", "<@b." + long(64) + ":a@b>", "<@" + long(64) + ".b:a@b>", "<@" + long(32) + "-" + long(31) + ":a@b>",
		"<@" + name(256) + ":a@b>", "<@x,@" + name(256) + ":a@b>", "<@" + name(256) + ",@y:a@b>", "<@" + name(300) + ",@" + long(64) + ":a@b>", "<@" + strings.Repeat("a.", 127) + "aa:a@b>", "<@" + long(40000) + ":a@b>",
		"<@" + long(64) + ":" + long(65) + "@b>", "<@x,@" + long(64) + ":" + long(65) + "@b>", "<@" + long(64) + ":a@" + long(64) + ">", "<@" + long(64) + ":\"a>b\"@c>", "<@" + long(64) + ":postmaster@b>", "<@" + long(64) + "," + routeOf(7) + "a@b>", "<@" + long(64) + "," + routeOf(8) + "a@b>", "<" + routeOf(8)[:23] + ",@" + name(256) + ":a@b>",
	} {
		for _, behind := range []string{"", " SIZE=5", "x"} {
			if p, rest, e := Parse(s + behind); e != api.ErrLong || !none(p) || rest != "" {
				t.Errorf("Parse(%q): %+v, %q, %d", s+behind, p, rest, e)
			}
		}
	}
	for many := 1; many < 300; many++ {
		holdParse(t, "<a@"+name(many)+">")
		holdParse(t, "<@"+name(many)+":a@b>")
		holdParse(t, "<@"+long(many)+":a@b>")
		holdParse(t, "<@x,@b."+long(many)+".c,@y:a@b>")
		holdParse(t, "<@"+name(many)+"_:a@b>")
		holdParse(t, "<"+routeOf(min(many, 20))+"a@b>")
		holdParse(t, "<"+routeOf(8)+"\""+long(many)+"\"@"+name(max(1, 229-many))+">>")
		holdParse(t, "<"+long(many)+"@b>")
		holdParse(t, "<>"+long(many))
		holdParse(t, "<postMaster>"+long(many))
	}
}

// P6.1: each byte at each place, and each short text, as the words' forms have it.
func TestParseForms(t *testing.T) {
	hold := func(s string) { holdParse(t, s) }
	for c := range 256 {
		for _, x := range [][2]string{
			{"", ""}, {"", "<a@b>"}, {"<", "a@b>"}, {"<a", "@b>"}, {"<a", "b>"}, {"<a@", "b>"}, {"<a@b", ">"}, {"<a@b", ""}, {"<a@b>", ""}, {"<", ">"}, {"", ">"}, {"<", ""},
			{"<\"", "\"@b>"}, {"<\"a", "b\"@c>"}, {"<\"\\", "\"@b>"}, {"<\"a\"", "@b>"}, {"<\"a\"", "b>"}, {"<", "x:a@b>"}, {"<@", "x:a@b>"}, {"<@x", ":a@b>"}, {"<@x", "a@b>"}, {"<@x:", "a@b>"}, {"<@x", "@y:a@b>"}, {"<@x,", "y:a@b>"},
			{"<postmaster", ">"}, {"<", "postmaster>"}, {"<postm", "ster>"}, {"<@x:postm", "ster>"},
		} {
			hold(x[0] + one(c) + x[1])
		}
	}
	every("<>a@\"", 6, hold)
	every("a@:,>", 6, func(s string) { hold("<" + s + "a@b>") })
	every("a\"\\>@", 6, func(s string) { hold("<" + s + "@b>") })
	for bits := range 1 << 10 {
		post := []byte("postmaster")
		for i := range post {
			post[i] -= byte(bits>>i&1) * 32
		}
		hold("<" + string(post) + ">")
		hold("<@x:" + string(post) + ">")
	}
	for seed := range uint64(60000) {
		hold("<" + random(seed, int(seed%10), "@x,", "@y:", "@", "a", "b", ":", ",", ".", "\"", "\\", ">", long(64), name(120), "[1.2.3.4]", "postmaster", " ", "é"))
		hold("<" + random(seed, 1+int(seed%4), "@x,", "@"+long(64)+",", "@"+long(63)+",", "@-,", "@"+long(64)+".,", "@"+name(256)+",") + random(seed+4, 1, "@x:", "@"+long(64)+":", "@_:", "@"+long(64)+"-:", "@b."+long(64)+":") + random(seed+5, 1, "a@b", "a@b.", "a", "", long(65)+"@b", "\"a>b\"@c") + random(seed+6, 1, ">", "> SIZE=5", ""))
		hold("<" + random(seed, int(seed%3), "@x,", "@y:", "@x,@y:", routeOf(8)) + random(seed+1, 1, "a", "\"a>b\"", "\"\"", "a.b", long(64), long(65)) + "@" + random(seed+2, 1, "b", "b.c", "[1.2.3.4]", name(150), name(255)) + random(seed+3, 2, ">", " SIZE=5", " "))
	}
}

// P6.1, R3, R4: the route that is answered is the caller's own; without one there is none.
func TestParseNew(t *testing.T) {
	first, _, _ := Parse("<@x,@y:a@b>")
	first.Route[0] = "z"
	if second, _, _ := Parse("<@x,@y:a@b>"); !slices.Equal(second.Route, []string{"x", "y"}) {
		t.Error(second)
	}
	for _, s := range []string{"<>", "<postmaster>", "<a@b>"} {
		if p, _, e := Parse(s); e != api.OK || len(p.Route) != 0 {
			t.Errorf("Parse(%q): %+v, %d", s, p, e)
		}
	}
}

// paramsTold is what ParseParams must answer, told by the words' forms.
func paramsTold(s string) (Params, api.Errno) {
	if !paramsForm.MatchString(s) {
		return Params{}, api.ErrForm
	}
	var p Params
	var e api.Errno
	times := map[string]int{}
	for _, found := range paramForm.FindAllStringSubmatch(s, -1) {
		name, value := strings.ToUpper(found[1]), found[2]
		times[name]++
		if times[name] > 1 || value == "" || name != "SIZE" && name != "BODY" {
			e = api.ErrArg
		}
		if name == "SIZE" && value != "" {
			size, err := strconv.ParseUint(value, 10, 64)
			if err != nil || len(value) > 9 {
				return Params{}, api.ErrForm
			}
			p.Has, p.Size = true, int(size)
		}
		if name == "BODY" {
			value = strings.ToUpper(value)
			p.Eight = value == "8BITMIME"
			if !p.Eight && value != "7BIT" {
				e = api.ErrArg
			}
		}
	}
	if e != api.OK {
		return Params{}, e
	}
	return p, api.OK
}

// holdParams holds what ParseParams answers against what is told.
func holdParams(t *testing.T, s string) {
	t.Helper()
	p, e := ParseParams(s)
	if want, wrong := paramsTold(s); p != want || e != wrong {
		t.Errorf("ParseParams(%q): %v, %d, not %v, %d", s, p, e, want, wrong)
	}
}

// P6.2: what parameters say.
func TestParseParams(t *testing.T) {
	for s, want := range map[string]Params{
		"": {}, " SIZE=5": {Has: true, Size: 5}, " size=5": {Has: true, Size: 5}, " SiZe=5": {Has: true, Size: 5}, " SIZE=0": {Has: true}, " SIZE=000000000": {Has: true}, " SIZE=007": {Has: true, Size: 7},
		" SIZE=999999999": {Has: true, Size: 999999999}, " SIZE=123456789": {Has: true, Size: 123456789},
		" BODY=7BIT": {}, " BODY=8BITMIME": {Eight: true}, " body=7bit": {}, " bOdY=8bitMime": {Eight: true}, " BODY=7Bit": {},
		" BODY=8BITMIME SIZE=1000": {Has: true, Eight: true, Size: 1000}, " SIZE=1000 BODY=8BITMIME": {Has: true, Eight: true, Size: 1000}, " SIZE=8 BODY=7BIT": {Has: true, Size: 8}, " BODY=7BIT SIZE=0": {Has: true},
	} {
		if p, e := ParseParams(s); e != api.OK || p != want {
			t.Errorf("ParseParams(%q): %v, %d, not %v", s, p, e, want)
		}
	}
}

// P6.2: what are no parameters, or have a size that is none; ahead of all else.
func TestParseParamsForm(t *testing.T) {
	for _, s := range []string{
		" ", "  ", "x", "SIZE=5", " SIZE=5 ", "  SIZE=5", " SIZE=5  BODY=7BIT", "\tSIZE=5", " SIZE=5\tBODY=7BIT", " SIZE =5", " SIZE= 5", " SIZE=", " BODY=", " FOO=", " =5", " =", " SIZE==5", " SIZE=5=6", " SIZE=5=", " BODY=7BIT=", " FOO=a=b",
		" SI_ZE=5", " SIZE:5", " FOO.BAR", " FOO+", " é", " é=5", " FOO=é", " FOO=\x7f", " FOO=\xff", " FOO=\x1f", " \xff", " FOO=a\tb", " \u212a", " FOO\x00", " SIZE=5\r\n", " <a@b>", " \"FOO\"", " FOO=\u0161",
		" SIZE=x", " SIZE=5x", " SIZE=x5", " SIZE=-5", " SIZE=+5", " SIZE=1234567890", " SIZE=0000000005", " SIZE=0x5", " SIZE=5.0", " SIZE=1,000", " size=99999999999999999999999", " SIZE=" + long(3000), " SIZE=\u0661",
		// ErrForm of all ahead of ErrArg of any.
		" FOO SIZE=x", " SIZE=x FOO", " SIZE=5 SIZE=x", " SIZE=x SIZE=5", " SIZE SIZE=x", " BODY=x SIZE=x", " BODY ", " FOO  BAR", " FOO BAR=", " BODY=7BIT BODY=7BIT =", " SIZE=5 SIZE=5 SIZE=1234567890", " FOO é", "x FOO", " BODY BODY SIZE=",
	} {
		if p, e := ParseParams(s); e != api.ErrForm || p != (Params{}) {
			t.Errorf("ParseParams(%q): %v, %d", s, p, e)
		}
	}
}

// P6.2: what is not known, has no value, another one, or stands there twice.
func TestParseParamsArg(t *testing.T) {
	for _, s := range []string{
		" FOO", " FOO=5", " -", " 0", " -=-", " A-B-9", " SIZE-", " SIZE-=5", " SIZES=5", " SIZ=5", " BODYS=7BIT", " AUTH=<>", " SMTPUTF8", " RET=HDRS", " FOO=" + long(3000), " " + long(3000), " FOO=!~",
		" SIZE", " BODY", " size", " body", " SIZE BODY", " SIZE BODY=7BIT", " BODY SIZE=5", " BODY=8BIT", " BODY=BINARYMIME", " BODY=7BITS", " BODY=7", " BODY=8BITMIM", " BODY=8BITMIMES", " BODY=5", " BODY=\"7BIT\"", " BODY=8",
		" SIZE=5 SIZE=5", " SIZE=5 size=6", " SIZE=0 SIZE=0", " BODY=7BIT BODY=7BIT", " BODY=7BIT body=8BITMIME", " BODY=8BITMIME BODY=7BIT", " SIZE=5 BODY=7BIT SIZE=5", " BODY=7BIT SIZE=5 BODY=7BIT", " SIZE=5 SIZE", " SIZE SIZE=5", " BODY BODY=7BIT", " BODY=7BIT BODY", " FOO FOO",
		" SIZE=5 FOO", " FOO SIZE=5", " BODY=8BITMIME FOO", " FOO BODY=8BITMIME", " SIZE=5 BODY=x", " BODY=x SIZE=5", " BODY=x BODY=7BIT", " FOO BODY=7BIT SIZE=1", " SIZE=1 SIZE=2 BODY=7BIT",
	} {
		if p, e := ParseParams(s); e != api.ErrArg || p != (Params{}) {
			t.Errorf("ParseParams(%q): %v, %d", s, p, e)
		}
	}
}

// P6.2: each byte at each place, and each short text, as the words' forms have it.
func TestParseParamsForms(t *testing.T) {
	hold := func(s string) { holdParams(t, s) }
	for c := range 256 {
		for _, x := range [][2]string{{"", ""}, {"", "SIZE=5"}, {" ", "SIZE=5"}, {" SIZ", "=5"}, {" SIZE", "5"}, {" SIZE", "=5"}, {" SIZE=", ""}, {" SIZE=1", "2"}, {" SIZE=5", ""}, {" SIZE=5", "BODY=7BIT"}, {" BODY=", "BIT"}, {" BODY=7BI", ""}, {" BODY=8BITMIM", ""}, {" ", ""}, {" FOO=", ""}, {" FOO=a", "b"}, {" FOO", ""}, {" BODY=7BIT", ""}} {
			hold(x[0] + one(c) + x[1])
		}
	}
	every(" a=1\t", 6, hold)
	every("1-= ", 5, func(s string) { hold(" SIZE=" + s); hold(" SIZE" + s); hold(" BODY=7BIT" + s) })
	for seed := range uint64(60000) {
		hold(random(seed, int(seed%5), " SIZE=5", " SIZE=0", " size=77", " SIZE", " SIZE=x", " BODY=7BIT", " BODY=8BITMIME", " Body=8bitmime", " BODY=z", " BODY", " FOO", " FOO=1", " ", "=", "x"))
		hold(" SIZE=" + random(seed, int(seed%13), "0", "1", "9", "5", "7"))
	}
}

// P6.3: a sender's path and its parameters.
func TestFrom(t *testing.T) {
	for _, x := range []struct {
		s      string
		path   Path
		params Params
	}{
		{"<a@b.c> SIZE=5", at("a", "b.c"), Params{Has: true, Size: 5}}, {"<@x,@y:a@b.c>", at("a", "b.c", "x", "y"), Params{}}, {"<>", Path{Null: true}, Params{}}, {"<> SIZE=0", Path{Null: true}, Params{Has: true}},
		{`<"a b"@Home.org> BODY=8BITMIME SIZE=1000`, at("a b", "Home.org"), Params{Has: true, Eight: true, Size: 1000}}, {"<> BODY=7bit", Path{Null: true}, Params{}}, {"<a@b>", at("a", "b"), Params{}}, {"<postmaster@b>", at("postmaster", "b"), Params{}},
		{`<"a> SIZE=1"@b> SIZE=2`, at("a> SIZE=1", "b"), Params{Has: true, Size: 2}},
	} {
		if p, params, e := From(x.s); e != api.OK || !same(p, x.path) || params != x.params {
			t.Errorf("From(%q): %+v, %v, %d", x.s, p, params, e)
		}
	}
	for s, want := range map[string]api.Errno{
		"": api.ErrForm, "<bob>": api.ErrForm, "a@b": api.ErrForm, "<a@b": api.ErrForm, " <a@b>": api.ErrForm, "<" + long(65) + "@b>": api.ErrLong, "<" + routeOf(9) + "a@b>": api.ErrLong,
		"<postmaster>": api.ErrForm, "<POSTMASTER>": api.ErrForm, "<Postmaster> SIZE=5": api.ErrForm, "<postmaster> FOO": api.ErrForm, "<postmaster>x": api.ErrForm,
		"<a@b>x": api.ErrForm, "<a@b> ": api.ErrForm, "<a@b>SIZE=5": api.ErrForm, "<a@b>  SIZE=5": api.ErrForm, "<>>": api.ErrForm, "<a@b> SIZE=x": api.ErrForm, "<> FOO SIZE=x": api.ErrForm,
		"<a@b> FOO": api.ErrArg, "<> FOO": api.ErrArg, "<a@b> SIZE=5 SIZE=5": api.ErrArg, "<> BODY": api.ErrArg, "<@x:a@b> BODY=x": api.ErrArg,
		// The path's error goes ahead of what stands behind it.
		"<bob> FOO": api.ErrForm, "<" + long(65) + "@b> FOO": api.ErrLong, "<" + long(65) + "@b> SIZE=x": api.ErrLong, "<" + routeOf(9) + "a@b>x": api.ErrLong, "<@" + long(64) + ":a@b>x": api.ErrLong, "<@" + long(64) + ":a@b> FOO": api.ErrLong, "<@" + long(64) + ":a>": api.ErrForm,
	} {
		if p, params, e := From(s); e != want || !none(p) || params != (Params{}) {
			t.Errorf("From(%q): %+v, %v, %d, not %d", s, p, params, e, want)
		}
	}
}

// P6.3: a recipient's path, and nothing behind it.
func TestTo(t *testing.T) {
	for s, want := range map[string]Path{
		"<a@b.c>": at("a", "b.c"), "<postMaster>": {Post: true}, "<POSTMASTER>": {Post: true}, "<@one.org,@two.org:bob@far.net>": at("bob", "far.net", "one.org", "two.org"), `<"a>b"@c>`: at("a>b", "c"), "<postmaster@b>": at("postmaster", "b"),
	} {
		if p, e := To(s); e != api.OK || !same(p, want) {
			t.Errorf("To(%q): %+v, %d", s, p, e)
		}
	}
	for s, want := range map[string]api.Errno{
		"": api.ErrForm, "<bob>": api.ErrForm, "a@b": api.ErrForm, "<a@b": api.ErrForm, "<" + long(65) + "@b>": api.ErrLong, "<" + routeOf(9) + "a@b>": api.ErrLong,
		"<>": api.ErrForm, "<> SIZE=5": api.ErrForm, "<> FOO": api.ErrForm, "<>x": api.ErrForm,
		"<a@b>x": api.ErrForm, "<a@b> ": api.ErrForm, "<a@b>>": api.ErrForm, "<a@b> SIZE=x": api.ErrForm, "<a@b> FOO SIZE=x": api.ErrForm, "<postmaster> =": api.ErrForm, "<a@b>\t": api.ErrForm,
		"<a@b> SIZE=5": api.ErrArg, "<bob@far.net> SIZE=5": api.ErrArg, "<a@b> FOO": api.ErrArg, "<a@b> BODY=7BIT": api.ErrArg, "<postmaster> BODY=8BITMIME": api.ErrArg, "<a@b> SIZE=5 SIZE=5": api.ErrArg, "<@x:a@b> NOTIFY=NEVER": api.ErrArg, "<postmaster> SIZE": api.ErrArg,
		"<bob> FOO": api.ErrForm, "<" + long(65) + "@b> FOO": api.ErrLong, "<" + long(65) + "@b>x": api.ErrLong, "<@" + long(64) + ":a@b>": api.ErrLong, "<@" + long(64) + ":a@b>x": api.ErrLong, "<@" + long(64) + ":>": api.ErrForm,
	} {
		if p, e := To(s); e != want || !none(p) {
			t.Errorf("To(%q): %+v, %d, not %d", s, p, e, want)
		}
	}
}

// P6.3: both are what Parse and ParseParams tell, whatever they are given.
func TestFromTo(t *testing.T) {
	for seed := range uint64(60000) {
		s := random(seed, 1, "<>", "<postmaster>", "<a@b>", "<@x:a@b>", "<"+long(65)+"@b>", "<bob>", "<", "<\"a> \"@b>") + random(seed+1, int(seed%4), " SIZE=5", " BODY=8BITMIME", " FOO", " SIZE=x", " BODY", " ", "x")
		p, rest, e := parseTold(s)
		params, wrong := paramsTold(rest)
		from, to := e, e
		if e == api.OK {
			from, to = wrong, api.OK
			if p.Post {
				from = api.ErrForm
			}
			if p.Null || wrong == api.ErrForm {
				to = api.ErrForm
			} else if rest != "" {
				to = api.ErrArg
			}
		}
		if got, has, e := From(s); e != from || e == api.OK && (!same(got, p) || has != params) || e != api.OK && (!none(got) || has != Params{}) {
			t.Errorf("From(%q): %+v, %v, %d, not %d", s, got, has, e, from)
		}
		if got, e := To(s); e != to || e == api.OK && !same(got, p) || e != api.OK && !none(got) {
			t.Errorf("To(%q): %+v, %d, not %d", s, got, e, to)
		}
	}
}

// P6.4: no route, and nothing of one whose address may not be.
func TestText(t *testing.T) {
	for _, x := range []struct {
		p    Path
		want string
	}{
		{Path{Null: true}, "<>"}, {Path{Post: true}, "<Postmaster>"}, {at("a", "b.c"), "<a@b.c>"}, {at("A", "B.C"), "<A@B.C>"}, {at("a b", "Home.org"), `<"a b"@Home.org>`}, {at(`a"b\`, "c"), `<"a\"b\\"@c>`}, {at(">", "c"), `<">"@c>`},
		{at("a", "[1.2.3.4]"), "<a@[1.2.3.4]>"}, {at("postmaster", "b"), "<postmaster@b>"}, {at("a", "b", "x", "y"), "<a@b>"}, {at("bob", "far.net", "one.org"), "<bob@far.net>"}, {at("a", "b", "no domain", ""), "<a@b>"},
		{at(long(64), name(255)), "<" + long(64) + "@" + name(255) + ">"},
		{Path{}, ""}, {at("", "b"), ""}, {at("a", ""), ""}, {at("a", "b."), ""}, {at("a\tb", "c"), ""}, {at("é", "c"), ""}, {at(long(65), "b"), ""}, {at("a", name(256)), ""}, {at("a", long(64)), ""}, {at("", "", "x"), ""}, {at("a", "b>", "x"), ""},
	} {
		if got := x.p.Text(); got != x.want {
			t.Errorf("Text of %+v: %q, not %q", x.p, got, x.want)
		}
	}
	route := []string{"x", "y"}
	p := at("a", "b", route...)
	if p.Text() != "<a@b>" || !reflect.DeepEqual(p, at("a", "b", "x", "y")) {
		t.Errorf("Text changed %+v", p)
	}
}

// behinds are what may stand behind a path.
func behinds() []string {
	return []string{"", " SIZE=5", ">", " ", "x", "\"", "@b>", ":a@b>", "\"@b>", "\x00", "\xff\xfe", "é", long(300)}
}

// thereAndBack holds that a path's text is read as the path without its route.
func thereAndBack(t *testing.T, p Path) {
	t.Helper()
	want := p
	want.Route = nil
	for _, behind := range behinds() {
		got, rest, e := Parse(p.Text() + behind)
		if e != api.OK || !same(got, want) || rest != behind {
			t.Errorf("Parse(%q): %+v, %q, %d, not %+v", p.Text()+behind, got, rest, e, p)
		}
	}
}

// P6.5: there and back.
func TestThereAndBack(t *testing.T) {
	thereAndBack(t, Path{Null: true})
	thereAndBack(t, Path{Post: true})
	every("\"\\a@.> :", 4, func(local string) {
		if local != "" {
			thereAndBack(t, at(local, "d.E"))
			thereAndBack(t, at(local, "[127.0.0.1]", "x", "y"))
		}
	})
	for c := ' '; c <= '~'; c++ {
		thereAndBack(t, at(string(c), "d"))
		thereAndBack(t, at("postmaster"+string(c), "d", "x"))
		thereAndBack(t, at(strings.Repeat(string(c), 64), name(120)))
	}
}

// P6.5: whatever is read has a text that is read as the same, but for the route.
func TestReadAgain(t *testing.T) {
	read := 0
	for seed := range uint64(60000) {
		local := random(seed, 1+int(seed%6), "u", "V", ".", "+", `\"`, `\\`, `\u`, " ", "@", ">", ":", "postMaster")
		if seed%3 != 0 {
			local = `"` + local + `"`
		}
		s := "<" + random(seed+1, 1, "", "@x:", "@X.y,@[1.2.3.4]:") + local + random(seed+2, 1, "", "@d", "@E.f", "@[1.2.3.4]") + ">"
		p, _, e := Parse(s + " x")
		if e != api.OK {
			continue
		}
		read++
		thereAndBack(t, p)
		if len(p.Text()) > len(s) {
			t.Errorf("Text of %q: %q", s, p.Text())
		}
	}
	if read < 1000 {
		t.Errorf("only %d were read", read)
	}
}

// P6.6: what stands behind is what was behind: the path alone is read as with it.
func TestWhole(t *testing.T) {
	hold := func(s string) {
		p, rest, e := Parse(s)
		if e != api.OK {
			return
		}
		if !strings.HasSuffix(s, rest) {
			t.Errorf("Parse(%q): %q behind", s, rest)
			return
		}
		front := strings.TrimSuffix(s, rest)
		if !strings.HasSuffix(front, ">") {
			t.Errorf("Parse(%q): %q ahead", s, front)
		}
		for _, behind := range append(behinds(), rest) {
			if q, other, e := Parse(front + behind); e != api.OK || !same(p, q) || other != behind {
				t.Errorf("Parse(%q): %+v, %q, %d", front+behind, q, other, e)
			}
		}
	}
	every("a@>\"", 6, func(s string) { hold("<" + s) })
	for seed := range uint64(20000) {
		hold("<" + random(seed, int(seed%3), "@x,", "@y:") + random(seed+1, 1, "a", "\"a>b\"", "\">\"") + "@" + random(seed+2, 4, "b", ">", " x", "\"", "<"))
	}
}

// R1: whatever bytes: each call answers.
func TestAnyBytes(t *testing.T) {
	pieces := make([]string, 256)
	for c := range pieces {
		pieces[c] = one(c)
	}
	for seed := range uint64(5000) {
		s := random(seed, int(seed%50), pieces...)
		for _, s := range []string{s, "<" + s, "<" + s + ">", "<@" + s + ":a@b>", "<\"" + s + "\"@b>", "<a@b>" + s} {
			holdParse(t, s)
			From(s)
			To(s)
		}
		holdParams(t, s)
		holdParams(t, " "+s)
		holdParams(t, " SIZE="+s)
		if p := at(s, s, s); p.Text() != "" && !addr.May(p.Addr) {
			t.Errorf("Text of %+v: %q", p, p.Text())
		}
	}
}
