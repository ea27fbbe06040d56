package alias

import (
	"fmt"
	"math/rand/v2"
	"regexp"
	"slices"
	"strings"
	"testing"

	"postrider/addr"
	"postrider/api"
	"postrider/lines"
)

// atoms is a dot-atom, told as an expression.
const atoms = "[-!#$%&'*+/=?^_`{|}~A-Za-z0-9]+(?:\\.[-!#$%&'*+/=?^_`{|}~A-Za-z0-9]+)*"

// The texts of targets, told as expressions; the lengths of dot-atoms are not.
var (
	nameTold    = regexp.MustCompile(`\A[-_A-Za-z0-9]{1,32}\z`)
	localTold   = regexp.MustCompile(`\A` + atoms + `\z`)
	finalTold   = regexp.MustCompile(`\A\\` + atoms + `\z`)
	boxTold     = regexp.MustCompile(`\A/[-_A-Za-z0-9]{1,32}\z`)
	includeTold = regexp.MustCompile(`\A:include:[ \t]*([-_A-Za-z0-9]{1,32})\z`)
	failTold    = regexp.MustCompile(`\A:fail:[ \t]*([!-~]|[!-~][ -~]{0,98}[!-~])[ \t]*\z`)
	userTold    = regexp.MustCompile(`\A(?s:.)[^+]*\+`)
	aloneTold   = regexp.MustCompile(`\A(?:\\|/|:include:|:fail:|:drop:)`)
)

// answer is what ParseTarget answers.
type answer struct {
	t Target
	e api.Errno
}

// parse is ParseTarget, with what it answers as one.
func parse(s string) answer {
	t, e := ParseTarget(s)
	return answer{t, e}
}

// lower answers a text with letters of ASCII in lower case.
func lower(s string) string {
	return strings.Map(func(r rune) rune {
		if 'A' <= r && r <= 'Z' {
			r += 32
		}
		return r
	}, s)
}

// targetTold is ParseTarget, told by expressions.
func targetTold(s string) answer {
	if aloneTold.MatchString(s) {
		switch {
		case finalTold.MatchString(s) && len(s) <= 65:
			return answer{t: Target{Kind: 3, Name: lower(s[1:])}}
		case boxTold.MatchString(s):
			return answer{t: Target{Kind: 4, Name: s[1:]}}
		case includeTold.MatchString(s):
			return answer{t: Target{Kind: 5, Name: includeTold.FindStringSubmatch(s)[1]}}
		case failTold.MatchString(s):
			return answer{t: Target{Kind: 6, Name: failTold.FindStringSubmatch(s)[1]}}
		case s == ":drop:":
			return answer{t: Target{Kind: 7}}
		}
		return answer{e: api.ErrForm}
	}
	if a, e := addr.Parse(s); e != api.ErrForm {
		if e != api.OK {
			return answer{e: e}
		}
		return answer{t: Target{Kind: 1, Addr: a}}
	}
	if localTold.MatchString(s) && len(s) <= 64 {
		return answer{t: Target{Kind: 2, Name: lower(s)}}
	}
	return answer{e: api.ErrForm}
}

// told is a table, and what is wrong with its texts.
type told struct {
	keys   map[string][]Target
	lists  map[string][]Target
	faults []Fault
}

// rowTold reads one line's targets into targets, and tells what is wrong with it.
func (x *told) rowTold(texts []string, alone bool) (l []Target, e api.Errno) {
	for _, s := range texts {
		a := targetTold(s)
		if a.e != api.OK || a.t.Kind > 5 && !alone {
			return nil, api.ErrForm
		}
		if _, is := x.lists[a.t.Name]; a.t.Kind == 5 && !is {
			e = api.ErrNone
		}
		l = append(l, a.t)
	}
	return l, e
}

// parseTold is Parse, told line by line over the entries that lines tells.
func parseTold(text string, lists []List) *told {
	x := &told{keys: map[string][]Target{}, lists: map[string][]Target{}}
	for _, l := range lists {
		if nameTold.MatchString(l.Name) {
			x.lists[l.Name] = nil
		}
	}
	add := func(in, text string, values bool, put func(key string, l []Target)) {
		entries, wrong := lines.Parse(text, values)
		at := map[int]Fault{}
		most := 0
		for _, f := range wrong {
			at[f.Line], most = Fault{in, f.Line, f.Code}, max(most, f.Line)
		}
		for _, entry := range entries {
			texts := entry.Values
			if !values {
				texts = []string{entry.Key}
			}
			l, e := x.rowTold(texts, values && len(texts) == 1)
			if values && (!localTold.MatchString(entry.Key) || len(entry.Key) > 64) {
				l, e = nil, api.ErrForm
			}
			if l != nil {
				put(lower(entry.Key), l)
			}
			if e != api.OK {
				at[entry.Line], most = Fault{in, entry.Line, e}, max(most, entry.Line)
			}
		}
		for i := range most + 1 {
			if f, is := at[i]; is {
				x.faults = append(x.faults, f)
			}
		}
	}
	add("", text, true, func(key string, l []Target) { x.keys[key] = l })
	seen := map[string]bool{}
	for _, l := range lists {
		switch {
		case !nameTold.MatchString(l.Name):
			x.faults = append(x.faults, Fault{l.Name, 0, api.ErrName})
		case seen[l.Name]:
			x.faults = append(x.faults, Fault{l.Name, 0, api.ErrThere})
		default:
			seen[l.Name] = true
			add(l.Name, l.Text, false, func(_ string, more []Target) { x.lists[l.Name] = append(x.lists[l.Name], more...) })
		}
	}
	return x
}

// findTold is Find, told of a table that was told.
func (x *told) findTold(local string) ([]Target, string, bool) {
	key := lower(local)
	if l, is := x.keys[key]; is {
		return l, key, true
	}
	if m := userTold.FindString(key); m != "" {
		if l, is := x.keys[m[:len(m)-1]]; is {
			return l, m[:len(m)-1], true
		}
	}
	return nil, "", false
}

// check holds what Parse, and its table, answer against what is told.
func check(t *testing.T, text string, lists []List, locals ...string) *Table {
	t.Helper()
	x, faults := Parse(text, lists)
	want := parseTold(text, lists)
	if !slices.Equal(faults, want.faults) {
		t.Fatalf("Parse(%q, %q): %v, not %v", text, lists, faults, want.faults)
	}
	var keys []string
	for key := range want.keys {
		keys = append(keys, key)
		locals = append(locals, key, strings.ToUpper(key), key+"+x", key+"x", "owner-"+key)
	}
	slices.Sort(keys)
	if got := x.Keys(); !slices.Equal(got, keys) {
		t.Fatalf("Parse(%q, %q): keys %q, not %q", text, lists, got, keys)
	}
	for _, local := range locals {
		l, by, is := x.Find(local)
		m, key, was := want.findTold(local)
		if !slices.Equal(l, m) || by != key || is != was {
			t.Fatalf("Parse(%q, %q): Find(%q): %v, %q, %v, not %v, %q, %v", text, lists, local, l, by, is, m, key, was)
		}
		if _, is := want.keys["owner-"+lower(local)]; x.Owner(local) != is {
			t.Fatalf("Parse(%q, %q): Owner(%q): not %v", text, lists, local, is)
		}
	}
	names := []string{"", "none", "a b"}
	for _, l := range lists {
		names = append(names, l.Name, strings.ToUpper(l.Name), l.Name+" ")
	}
	for _, name := range names {
		l, is := x.List(name)
		if m, was := want.lists[name]; !slices.Equal(l, m) || is != was {
			t.Fatalf("Parse(%q, %q): List(%q): %v, %v, not %v, %v", text, lists, name, l, is, m, was)
		}
	}
	return x
}

// short goes through all texts of pieces, of so many pieces at most.
func short(pieces []string, most int, each func(string)) {
	var longer func(s string, many int)
	longer = func(s string, many int) {
		each(s)
		if many == most {
			return
		}
		for _, piece := range pieces {
			longer(s+piece, many+1)
		}
	}
	longer("", 0)
}

// long answers a text of so many letters.
func long(many int) string { return strings.Repeat("x", many) }

// texts answers targets' texts.
func texts(l []Target) (all []string) {
	for _, x := range l {
		all = append(all, x.Text())
	}
	return all
}

// P14.1 to P14.3: the chapter's examples.
func TestExamples(t *testing.T) {
	x, faults := Parse("staff: ann, bob@far.net, :include:rest\nx: :fail: gone, y\n", []List{{"rest", "carl\n"}})
	if !slices.Equal(faults, []Fault{{"", 2, api.ErrForm}}) {
		t.Error(faults)
	}
	l, by, is := x.Find("staff+x")
	want := []Target{{Kind: Local, Name: "ann"}, {Kind: Address, Addr: api.Addr{Local: "bob", Domain: "far.net"}}, {Kind: Include, Name: "rest"}}
	if !slices.Equal(l, want) || by != "staff" || !is {
		t.Error(l, by, is)
	}
	if l, by, is := x.Find("x"); l != nil || by != "" || is {
		t.Error(l, by, is)
	}
	if l, is := x.List("rest"); !slices.Equal(l, []Target{{Kind: Local, Name: "carl"}}) || !is {
		t.Error(l, is)
	}
}

// P14.1: kinds have the numbers that the chapter says.
func TestKinds(t *testing.T) {
	if got := []int{Address, Local, Final, Box, Include, Fail, Drop}; !slices.Equal(got, []int{1, 2, 3, 4, 5, 6, 7}) {
		t.Error(got)
	}
}

// P14.1: a name has 1 to 32 letters, digits, hyphens and low lines.
func TestMayName(t *testing.T) {
	for s, want := range map[string]bool{
		"": false, "a": true, "Z": true, "0": true, "-": true, "_": true, "--": true, "Ab-9_z": true,
		long(32): true, long(33): false, long(1 << 20): false,
		"a b": false, " a": false, "a ": false, "a.b": false, "a+b": false, "a/b": false, "/a": false, "a\n": false, "\x00": false, "\x80": false, "ä": false, "a\xc3": false,
	} {
		if got := MayName(s); got != want {
			t.Errorf("MayName(%q): %v", s, got)
		}
	}
	for b := range 256 {
		c := string([]byte{byte(b)})
		for _, s := range []string{c, c + "a", "a" + c, "a" + c + "a"} {
			if got, want := MayName(s), nameTold.MatchString(s); got != want {
				t.Errorf("MayName(%q): %v", s, got)
			}
		}
	}
}

// P14.1: each kind is read of its text, and what is none has ErrForm, or ErrLong.
func TestParseTarget(t *testing.T) {
	at := func(local, domain string) answer {
		return answer{t: Target{Kind: Address, Addr: api.Addr{Local: local, Domain: domain}}}
	}
	name := func(kind int, name string) answer { return answer{t: Target{Kind: kind, Name: name}} }
	form, tooLong := answer{e: api.ErrForm}, answer{e: api.ErrLong}
	for s, want := range map[string]answer{
		"bob@far.net":              at("bob", "far.net"),
		"Bob@Far.net":              at("Bob", "Far.net"),
		"a+b@[127.0.0.1]":          at("a+b", "[127.0.0.1]"),
		`"a b"@d`:                  at("a b", "d"),
		`"a@b"@d`:                  at("a@b", "d"),
		`"/x"@d`:                   at("/x", "d"),
		`"\\x"@d`:                  at(`\x`, "d"),
		`":drop:"@d`:               at(":drop:", "d"),
		long(64) + "@d":            at(long(64), "d"),
		"x@" + long(63):            at("x", long(63)),
		long(65) + "@d":            tooLong,
		`"` + long(65) + `"@d`:     tooLong,
		"x@" + long(64):            tooLong,
		long(65) + "@d_":           form,
		"x@":                       form,
		"@x":                       form,
		"@":                        form,
		"a@b@c":                    form,
		"a@b c":                    form,
		" a@b":                     form,
		"a@b ":                     form,
		"a@-b":                     form,
		`""@b`:                     form,
		`"a@b"`:                    form,
		`"a"`:                      form,
		"a:b@c":                    form,
		":Drop:@c":                 form,
		"/a@b":                     form,
		"/@b":                      form,
		`\a@b`:                     form,
		":include:a@b":             form,
		":drop:@b":                 form,
		":fail:@b":                 name(Fail, "@b"),
		"ann":                      name(Local, "ann"),
		"Ann.LEE":                  name(Local, "ann.lee"),
		"ann+x":                    name(Local, "ann+x"),
		"a/b":                      name(Local, "a/b"),
		"9":                        name(Local, "9"),
		"#":                        name(Local, "#"),
		"!#$%&'*+-/=?^_`{|}~":      name(Local, "!#$%&'*+-/=?^_`{|}~"),
		"fail":                     name(Local, "fail"),
		long(64):                   name(Local, long(64)),
		long(65):                   form,
		"":                         form,
		" ":                        form,
		" ann":                     form,
		"ann ":                     form,
		"a b":                      form,
		"a..b":                     form,
		".a":                       form,
		"a.":                       form,
		"a,b":                      form,
		"a:b":                      form,
		"a\\b":                     form,
		"a\x80":                    form,
		"ä":                        form,
		"a\x00":                    form,
		`\ann`:                     name(Final, "ann"),
		`\Ann.LEE`:                 name(Final, "ann.lee"),
		`\/a`:                      name(Final, "/a"),
		`\` + long(64):             name(Final, long(64)),
		`\` + long(65):             form,
		`\`:                        form,
		`\\a`:                      form,
		`\ a`:                      form,
		`\a.`:                      form,
		`\:drop:`:                  form,
		`\"a"`:                     form,
		"/box":                     name(Box, "box"),
		"/Box_9-":                  name(Box, "Box_9-"),
		"/" + long(32):             name(Box, long(32)),
		"/" + long(33):             form,
		"/":                        form,
		"//a":                      form,
		"/a/b":                     form,
		"/a.b":                     form,
		"/ a":                      form,
		"/a ":                      form,
		":include:rest":            name(Include, "rest"),
		":include:Re-st_9":         name(Include, "Re-st_9"),
		":include: rest":           name(Include, "rest"),
		":include: \t \trest":      name(Include, "rest"),
		":include:" + long(32):     name(Include, long(32)),
		":include:  " + long(32):   name(Include, long(32)),
		":include:" + long(33):     form,
		":include:":                form,
		":include: ":               form,
		":include:a b":             form,
		":include:a ":              form,
		":include:\na":             form,
		":include:/a":              form,
		":include:a.b":             form,
		":include:\"a\"":           form,
		":Include:a":               form,
		":include a":               form,
		"include:a":                form,
		" :include:a":              form,
		":fail:gone":               name(Fail, "gone"),
		":fail: No longer  here!":  name(Fail, "No longer  here!"),
		":fail:\t gone \t":         name(Fail, "gone"),
		":fail::fail:":             name(Fail, ":fail:"),
		":fail: \"a\\,":            name(Fail, "\"a\\,"),
		":fail:x":                  name(Fail, "x"),
		":fail:" + long(100):       name(Fail, long(100)),
		":fail:  " + long(100):     name(Fail, long(100)),
		":fail:" + long(100) + " ": name(Fail, long(100)),
		":fail: " + long(101):      form,
		":fail:":                   form,
		":fail: \t":                form,
		":fail: a\tb":              form,
		":fail: a\n":               form,
		":fail: \x80":              form,
		":fail: a\x7f":             form,
		":Fail: gone":              form,
		":fail gone":               form,
		":drop:":                   name(Drop, ""),
		":drop: ":                  form,
		":drop:x":                  form,
		":drop::drop:":             form,
		":drop":                    form,
		":DROP:":                   form,
		" :drop:":                  form,
		"drop:":                    form,
	} {
		if got := parse(s); got != want {
			t.Errorf("ParseTarget(%q): %v, not %v", s, got, want)
		}
		if got := targetTold(s); got != want {
			t.Errorf("told of %q: %v, not %v", s, got, want)
		}
	}
}

// checkTarget holds what ParseTarget answers against what is told, and what it
// reads against its own text.
func checkTarget(t *testing.T, s string) {
	t.Helper()
	got, want := parse(s), targetTold(s)
	if got != want {
		t.Fatalf("ParseTarget(%q): %v, not %v", s, got, want)
	}
	if got.e != api.OK {
		return
	}
	text := got.t.Text()
	if slash := got.t.Kind == Address && addr.Text(got.t.Addr)[0] == '/'; slash != (text == "") {
		t.Fatalf("%q: %v has the text %q", s, got.t, text)
	}
	if again := parse(text); text != "" && again != got {
		t.Fatalf("%q: %v has the text %q, which is %v", s, got, text, again)
	}
}

// P14.1, P14.5: short texts, whatever they have, are read as is told, and as what
// their text says.
func TestShortTargets(t *testing.T) {
	short(strings.Split("aA0-_.+@/\\:\" \t\x80", ""), 5, func(s string) { checkTarget(t, s) })
	for _, front := range []string{`\`, "/", ":include:", ":fail:", ":drop:", "a@", "\"", ":fail", "include:"} {
		short(strings.Split("aZ9-_.@/\\:\" \t\n", ""), 4, func(s string) { checkTarget(t, front+s) })
	}
}

// P14.1, P14.5: each byte at each place of targets' texts.
func TestTargetBytes(t *testing.T) {
	for _, s := range []string{"ann.b", "ann@far.net", `"a b"@far.net`, `"/x"@far.net`, `\ann.b`, "/box-9", ":include: rest", ":fail: no one, here", ":drop:", long(64), `\` + long(63), "/" + long(31), ":include:" + long(31), ":fail:" + long(99)} {
		for i := range len(s) + 1 {
			for b := range 256 {
				c := string([]byte{byte(b)})
				checkTarget(t, s[:i]+c+s[i:])
				if i < len(s) {
					checkTarget(t, s[:i]+c+s[i+1:])
				}
			}
		}
	}
}

// P14.1: a target's text is that of its kind, and nothing of one that is not read of it.
func TestTargetText(t *testing.T) {
	at := func(local, domain string) Target {
		return Target{Kind: Address, Addr: api.Addr{Local: local, Domain: domain}}
	}
	for x, want := range map[Target]string{
		at("bob", "Far.net"):                        "bob@Far.net",
		at("a b", "d"):                              `"a b"@d`,
		at(`a"b\`, "d"):                             `"a\"b\\"@d`,
		at(`\x`, "d"):                               `"\\x"@d`,
		at(":drop:", "d"):                           `":drop:"@d`,
		at("a/b", "d"):                              "a/b@d",
		at("/x", "d"):                               "",
		at("/", "d"):                                "",
		at("/x.y", "d"):                             "",
		at("", "d"):                                 "",
		at("a", ""):                                 "",
		at("a", "d_"):                               "",
		at(long(65), "d"):                           "",
		{Kind: Local, Name: "ann.lee"}:              "ann.lee",
		{Kind: Local, Name: "Ann"}:                  "",
		{Kind: Local, Name: "/x"}:                   "",
		{Kind: Local, Name: `\x`}:                   "",
		{Kind: Local, Name: "a@b"}:                  "",
		{Kind: Local, Name: ":drop:"}:               "",
		{Kind: Local, Name: "a b"}:                  "",
		{Kind: Local, Name: ""}:                     "",
		{Kind: Local, Name: long(64)}:               long(64),
		{Kind: Local, Name: long(65)}:               "",
		{Kind: Final, Name: "ann"}:                  `\ann`,
		{Kind: Final, Name: "/ann"}:                 `\/ann`,
		{Kind: Final, Name: "Ann"}:                  "",
		{Kind: Final, Name: ""}:                     "",
		{Kind: Final, Name: "a@b"}:                  "",
		{Kind: Final, Name: long(64)}:               `\` + long(64),
		{Kind: Final, Name: long(65)}:               "",
		{Kind: Box, Name: "Box"}:                    "/Box",
		{Kind: Box, Name: ""}:                       "",
		{Kind: Box, Name: "a.b"}:                    "",
		{Kind: Box, Name: long(33)}:                 "",
		{Kind: Include, Name: "Rest"}:               ":include:Rest",
		{Kind: Include, Name: " rest"}:              "",
		{Kind: Include, Name: ""}:                   "",
		{Kind: Include, Name: long(33)}:             "",
		{Kind: Fail, Name: "No longer here"}:        ":fail: No longer here",
		{Kind: Fail, Name: long(100)}:               ":fail: " + long(100),
		{Kind: Fail, Name: long(101)}:               "",
		{Kind: Fail, Name: ""}:                      "",
		{Kind: Fail, Name: " a"}:                    "",
		{Kind: Fail, Name: "a\t"}:                   "",
		{Kind: Fail, Name: "a\tb"}:                  "",
		{Kind: Drop}:                                ":drop:",
		{Kind: Drop, Name: "x"}:                     "",
		{}:                                          "",
		{Name: "ann"}:                               "",
		{Kind: -1, Name: "ann"}:                     "",
		{Kind: 8, Name: "ann"}:                      "",
		{Kind: -1 << 63, Name: "ann"}:               "",
		{Kind: 1<<63 - 1, Name: "ann"}:              "",
		{1, api.Addr{Local: "a", Domain: "b"}, "a"}: "",
		{2, api.Addr{Local: "a", Domain: "b"}, "a"}: "",
		{7, api.Addr{Domain: "b"}, ""}:              "",
	} {
		if got := x.Text(); got != want {
			t.Errorf("Text of %+v: %q, not %q", x, got, want)
		}
	}
}

// P14.1: whatever a target has, its text is read as it, or nothing is, that its
// kind's row says.
func TestAnyText(t *testing.T) {
	names := []string{"", "a", "A", "a.b", "a b", " a", "a ", "/a", `\a`, "a@b", ":drop:", ":include:a", "a\x80", "-", "\t", "\"a\"", long(32), long(33), long(64), long(100)}
	addrs := []api.Addr{{}, {Local: "a", Domain: "b"}, {Local: "A b", Domain: "B"}, {Local: "/a", Domain: "b"}, {Local: "a", Domain: "-"}}
	for kind := -1; kind <= 9; kind++ {
		for _, name := range names {
			for _, a := range addrs {
				x := Target{kind, a, name}
				form := map[int]string{1: addr.Text(a), 2: name, 3: `\` + name, 4: "/" + name, 5: ":include:" + name, 6: ":fail: " + name, 7: ":drop:"}[kind]
				if targetTold(form) != (answer{t: x}) {
					form = ""
				}
				if got := x.Text(); got != form {
					t.Errorf("Text of %+v: %q, not %q", x, got, form)
				}
			}
		}
	}
}

// P14.2: the faults, by lines, and what holds beside them.
func TestFaults(t *testing.T) {
	many := strings.Repeat("z,", 16)
	for _, c := range []struct {
		text string
		want []Fault
		keys []string
	}{
		{"", nil, nil},
		{"# who\n\n \n", nil, nil},
		{"a: b", nil, []string{"a"}},
		{"Ann.Lee: b\n\"bob\": c\n9: d\n!#$%&'*+-/=?^_`{|}~: e\n", nil, []string{"!#$%&'*+-/=?^_`{|}~", "9", "ann.lee", "bob"}},
		{long(64) + ": a\n" + long(65) + ": a", []Fault{{"", 2, api.ErrForm}}, []string{long(64)}},
		{"a b: c\nd: e", []Fault{{"", 1, api.ErrForm}}, []string{"d"}},
		{"a@b: c\n\"a:b\": c\n\" \": c\n\\a: c\na.: b\n/a: b", []Fault{{"", 1, api.ErrForm}, {"", 2, api.ErrForm}, {"", 3, api.ErrForm}, {"", 4, api.ErrForm}, {"", 5, api.ErrForm}}, []string{"/a"}},
		{"a: b c\nd: e", []Fault{{"", 1, api.ErrForm}}, []string{"d"}},
		{"a: b, c.\nd: e", []Fault{{"", 1, api.ErrForm}}, []string{"d"}},
		{"a: \"\"", []Fault{{"", 1, api.ErrForm}}, nil},
		{"a: \" b\"", []Fault{{"", 1, api.ErrForm}}, nil},
		{"a: b@" + long(64), []Fault{{"", 1, api.ErrForm}}, nil},
		{"a: " + long(65) + "@b", []Fault{{"", 1, api.ErrForm}}, nil},
		{"a: \"\\\"b c\\\"@d\", \"\\\\e\", \\f, /g", nil, []string{"a"}},
		{"a: :fail: no, one", []Fault{{"", 1, api.ErrForm}}, nil},
		{"a: \":fail: no, one\"", nil, []string{"a"}},
		{"a: :fail: x\nb: :drop:\n", nil, []string{"a", "b"}},
		{"a: b, :fail: x\nc: :drop:, b\nd: :drop:, :drop:\ne: :fail:x, :drop:\nf: b, c, :drop:", []Fault{{"", 1, api.ErrForm}, {"", 2, api.ErrForm}, {"", 3, api.ErrForm}, {"", 4, api.ErrForm}, {"", 5, api.ErrForm}}, nil},
		{"a: :fail:\nb: :drop: x\nc: :include:", []Fault{{"", 1, api.ErrForm}, {"", 2, api.ErrForm}, {"", 3, api.ErrForm}}, nil},
		{"a: :include:none\nb: c, :include: none, d", []Fault{{"", 1, api.ErrNone}, {"", 2, api.ErrNone}}, []string{"a", "b"}},
		{"a: :include:none, b.", []Fault{{"", 1, api.ErrForm}}, nil},
		{"a: :include:none, :drop:", []Fault{{"", 1, api.ErrForm}}, nil},
		{"a b: :include:none", []Fault{{"", 1, api.ErrForm}}, nil},
		// What lines tells goes ahead, also of a key whose first line has another fault.
		{"a: b.\nA: c", []Fault{{"", 1, api.ErrForm}, {"", 2, api.ErrThere}}, nil},
		{"a: b\nA: :include:none", []Fault{{"", 2, api.ErrThere}}, []string{"a"}},
		{"a: b\nA: c.", []Fault{{"", 2, api.ErrThere}}, []string{"a"}},
		{"a: :include:none\nA: c", []Fault{{"", 1, api.ErrNone}, {"", 2, api.ErrThere}}, []string{"a"}},
		{"a: " + many + "z", []Fault{{"", 1, api.ErrFull}}, nil},
		{"a: " + many[:31], nil, []string{"a"}},
		{"a: " + many + "z.", []Fault{{"", 1, api.ErrFull}}, nil},
		{"a b: " + many + "z", []Fault{{"", 1, api.ErrFull}}, nil},
		{"a: b.\nx\nc: d\n e\nC: f\n y", []Fault{{"", 1, api.ErrForm}, {"", 2, api.ErrForm}, {"", 3, api.ErrForm}, {"", 5, api.ErrThere}}, nil},
		{" a: b\nx: y.\n\n\nz\nq: :include:n\n", []Fault{{"", 1, api.ErrForm}, {"", 2, api.ErrForm}, {"", 5, api.ErrForm}, {"", 6, api.ErrNone}}, []string{"q"}},
		{"a: b\n#" + long(8192), []Fault{{"", 0, api.ErrLong}}, nil},
	} {
		x, faults := Parse(c.text, nil)
		if !slices.Equal(faults, c.want) || !slices.Equal(x.Keys(), c.keys) {
			t.Errorf("Parse(%q): %v, %q, not %v, %q", c.text, faults, x.Keys(), c.want, c.keys)
		}
		check(t, c.text, nil)
	}
}

// P14.2: include lists, their names, and what stands in them.
func TestLists(t *testing.T) {
	in := func(faults ...Fault) []Fault { return faults }
	for _, c := range []struct {
		lists []List
		want  []Fault
		tells map[string][]string
	}{
		{[]List{{"a", ""}}, nil, map[string][]string{"a": nil}},
		{[]List{{"a", "ann\n\\bob\n/Box\nc@D\n:include: a\n:include:b\n"}, {"b", "#\n"}}, nil, map[string][]string{"a": {"ann", `\bob`, "/Box", "c@D", ":include:a", ":include:b"}, "b": nil}},
		{[]List{{"a", "ann\n:include:none\nbob"}}, in(Fault{"a", 2, api.ErrNone}), map[string][]string{"a": {"ann", ":include:none", "bob"}}},
		{[]List{{"a", ":fail: x\n:drop:\nann\n:fail:\n:drop:x"}}, in(Fault{"a", 1, api.ErrForm}, Fault{"a", 2, api.ErrForm}, Fault{"a", 4, api.ErrForm}, Fault{"a", 5, api.ErrForm}), map[string][]string{"a": {"ann"}}},
		{[]List{{"a", "a: b\na, b\n\"a\"\n\"x y\"@d\na b\nd\n b\nc.\nc@" + long(64) + "\nc"}}, in(Fault{"a", 1, api.ErrForm}, Fault{"a", 2, api.ErrForm}, Fault{"a", 3, api.ErrForm}, Fault{"a", 4, api.ErrForm}, Fault{"a", 5, api.ErrForm}, Fault{"a", 6, api.ErrForm}, Fault{"a", 8, api.ErrForm}, Fault{"a", 9, api.ErrForm}), map[string][]string{"a": {"c"}}},
		{[]List{{"a", "ann\nbob\nANN\nBob\n\\ann"}}, in(Fault{"a", 3, api.ErrThere}, Fault{"a", 4, api.ErrThere}), map[string][]string{"a": {"ann", "bob", `\ann`}}},
		{[]List{{"a", " x\nann"}}, in(Fault{"a", 1, api.ErrForm}), map[string][]string{"a": {"ann"}}},
		{[]List{{"a", ":include:\n\tb\n"}}, in(Fault{"a", 1, api.ErrNone}), map[string][]string{"a": {":include:b"}}},
		{[]List{{"", "x."}, {"a b", "x."}, {long(33), "x."}, {"ä", ""}, {"c.d", "ann"}}, in(Fault{"", 0, api.ErrName}, Fault{"a b", 0, api.ErrName}, Fault{long(33), 0, api.ErrName}, Fault{"ä", 0, api.ErrName}, Fault{"c.d", 0, api.ErrName}), nil},
		{[]List{{"a", "ann"}, {"a", "x.\nbob"}, {"A", "carl"}, {"a", "dan"}}, in(Fault{"a", 0, api.ErrThere}, Fault{"a", 0, api.ErrThere}), map[string][]string{"a": {"ann"}, "A": {"carl"}}},
		{[]List{{"a.", ""}, {"a.", ""}}, in(Fault{"a.", 0, api.ErrName}, Fault{"a.", 0, api.ErrName}), nil},
		{[]List{{"a", ":include:b.\n:include:B\n"}, {"b.", ":include:a"}, {"b", ""}}, in(Fault{"a", 1, api.ErrForm}, Fault{"a", 2, api.ErrNone}, Fault{"b.", 0, api.ErrName}), map[string][]string{"a": {":include:B"}, "b": nil}},
		{[]List{{"a", "ann\n#" + long(8192)}, {"b", ":include:a"}, {"a", "bob"}}, in(Fault{"a", 0, api.ErrLong}, Fault{"a", 0, api.ErrThere}), map[string][]string{"a": nil, "b": {":include:a"}}},
		{[]List{{"b", "x."}, {"a", "y\nY"}}, in(Fault{"b", 1, api.ErrForm}, Fault{"a", 2, api.ErrThere}), map[string][]string{"b": nil, "a": {"y"}}},
		{[]List{{long(32), "/" + long(32)}}, nil, map[string][]string{long(32): {"/" + long(32)}}},
	} {
		x, faults := Parse("", c.lists)
		if !slices.Equal(faults, c.want) {
			t.Errorf("%q: %v, not %v", c.lists, faults, c.want)
		}
		for name, want := range c.tells {
			if l, is := x.List(name); !is || !slices.Equal(texts(l), want) {
				t.Errorf("%q: List(%q): %q, %v, not %q", c.lists, name, texts(l), is, want)
			}
		}
		check(t, "", c.lists)
		check(t, "a: :include:a\nb: x, :include: b\nc: y.\n", c.lists)
	}
}

// P14.2: the faults of the aliases' text stand ahead of those of include lists,
// and these list by list; lines may tell lists that stand behind them.
func TestFaultsOrder(t *testing.T) {
	lists := []List{{"z", ":include:y\n:include:a\nq."}, {"-.", "r."}, {"y", "b\nB\n:include:no\n:include:z"}, {"z", ""}}
	x, faults := Parse("k: :include:z, :include:y\nK: l\nm: :include:q, :include:y\nn: o.\n", lists)
	want := []Fault{{"", 2, api.ErrThere}, {"", 3, api.ErrNone}, {"", 4, api.ErrForm}, {"z", 2, api.ErrNone}, {"z", 3, api.ErrForm}, {"-.", 0, api.ErrName}, {"y", 2, api.ErrThere}, {"y", 3, api.ErrNone}, {"z", 0, api.ErrThere}}
	if !slices.Equal(faults, want) {
		t.Errorf("%v, not %v", faults, want)
	}
	for name, want := range map[string][]string{"z": {":include:y", ":include:a"}, "y": {"b", ":include:no", ":include:z"}} {
		if l, is := x.List(name); !is || !slices.Equal(texts(l), want) {
			t.Error(name, texts(l), is)
		}
	}
	if l, is := x.List("-."); l != nil || is {
		t.Error(l, is)
	}
	if l, by, is := x.Find("M"); !slices.Equal(texts(l), []string{":include:q", ":include:y"}) || by != "m" || !is {
		t.Error(l, by, is)
	}
}

// P14.2: there are 64 keys, and 64 targets of a list, at most.
func TestFull(t *testing.T) {
	text, list := "", ""
	for i := range 64 {
		text += fmt.Sprintf("K%d: a, b%d\n", i, i)
		list += fmt.Sprintf("/K%d\n", i)
	}
	x := check(t, text+"l: b\n", []List{{"a", list + "/l\n"}})
	l, _ := x.List("a")
	if keys := x.Keys(); len(keys) != 64 || len(l) != 64 || keys[0] != "k0" || keys[63] != "k9" || l[63].Name != "K63" {
		t.Error(keys, l)
	}
	if _, faults := Parse(text+"l: b\n", []List{{"a", list + "/l\n"}}); !slices.Equal(faults, []Fault{{"", 65, api.ErrFull}, {"a", 65, api.ErrFull}}) {
		t.Error(faults)
	}
	var lists []List
	for i := range 500 {
		lists = append(lists, List{fmt.Sprintf("l%d", i), fmt.Sprintf(":include:l%d", (i+1)%500)})
	}
	if _, faults := Parse("", lists); faults != nil {
		t.Error(faults)
	}
}

// P14.3: a local part is found by its own key, else by its user's.
func TestFind(t *testing.T) {
	x, faults := Parse("Team: ann\nteam+NEWS: bob\n+x: carl\na+b+c: dan\nOwner-Team: eve\nowner-: fay\nowner-a+b+c: gus\n+: hal\nu: :drop:\nowner-owner-team: ida\n", nil)
	if faults != nil {
		t.Fatal(faults)
	}
	for local, want := range map[string]string{
		"team": "team", "TEAM": "team", "tEAm+x": "team", "team+": "team", "team+x+y": "team", "TEAM+news": "team+news", "team+news+x": "team", "Team+newsx": "team",
		"+x": "+x", "+X": "+x", "+": "+", "+y": "", "++": "+", "+x+y": "+x", "++x": "+",
		"a+b+c": "a+b+c", "a+b": "", "a+b+c+d": "", "a": "",
		"owner-team": "owner-team", "owner-team+x": "owner-team", "owner-": "owner-", "OWNER-+": "owner-",
		"u": "u", "U+v": "u", "": "", "team ": "", " team": "", "tea": "", "teams": "", "team-x": "", "team@x": "", "team\x80": "", "ann": "",
	} {
		l, by, is := x.Find(local)
		if by != want || is != (want != "") || is != (len(l) == 1) {
			t.Errorf("Find(%q): %v, %q, %v, not by %q", local, l, by, is, want)
		}
	}
	for by, want := range map[string]bool{
		"team": true, "TEAM": true, "tEaM": true, "": true, "a+b+c": true, "A+B+C": true, "owner-team": true, "Owner-TEAM": true, "a+b": false, "team+x": false, "u": false, "team ": false, "owner-": false, "ann": false, "-": false,
	} {
		if got := x.Owner(by); got != want {
			t.Errorf("Owner(%q): %v", by, got)
		}
	}
	want := []string{"+", "+x", "a+b+c", "owner-", "owner-a+b+c", "owner-owner-team", "owner-team", "team", "team+news", "u"}
	if got := x.Keys(); !slices.Equal(got, want) {
		t.Errorf("%q, not %q", got, want)
	}
	if x, _ := Parse("owner-a: b\nowner-b: c.\n", nil); x.Owner("") || x.Owner("b") || !x.Owner("A") {
		t.Error("owner")
	}
}

// P14.3: keys stand in order of bytes, lower.
func TestKeys(t *testing.T) {
	x, faults := Parse("b: x\nA: x\n_: x\nZ: x\na.b: x\na-b: x\n~: x\n0: x\naa: x\n", nil)
	if got := x.Keys(); !slices.Equal(got, []string{"0", "_", "a", "a-b", "a.b", "aa", "b", "z", "~"}) || faults != nil {
		t.Error(got, faults)
	}
}

// P14.3, edges: no table, and one that Parse did not make, tell nothing.
func TestNoTable(t *testing.T) {
	for _, x := range []*Table{nil, {}, new(Table)} {
		if l, by, is := x.Find("a+b"); l != nil || by != "" || is {
			t.Error(l, by, is)
		}
		if l, is := x.List("a"); l != nil || is {
			t.Error(l, is)
		}
		if x.Owner("") || x.Owner("a") || len(x.Keys()) != 0 {
			t.Error("no table")
		}
	}
	x, faults := Parse("", nil)
	if _, _, is := x.Find(""); x == nil || faults != nil || is || len(x.Keys()) != 0 {
		t.Error(x, faults)
	}
}

// pieced answers a text that is put together of pieces by chance.
func pieced(r *rand.Rand, most int, pieces ...string) string {
	s := ""
	for range r.IntN(most + 1) {
		s += pieces[r.IntN(len(pieces))]
	}
	return s
}

// P14.2, P14.3: texts that are put together of lines, and of pieces of lines, are
// read as is told.
func TestPieces(t *testing.T) {
	r := rand.New(rand.NewPCG(14, 2))
	rows := []string{"a: b\n", "A: c@d\n", "b+x: a, \\b\n", "b: /box, :include:l\n", "owner-a: a\n", "c: :include: m, x\n", "d: :fail: no\n", "D: :drop:\n", "e: x.\n", "e: y\n", "f: a, :drop:\n", "f f: a\n", "g: :include:no, :include:l\n", "g\n", " , h\n", "#\n", "\n", "h: \"\\\"a b\\\"@c\"\n", "i: :fail: a, b\n", "k: a,\n"}
	listed := []string{"a\n", "A\n", "\\a\n", "/a\n", "/A\n", "b@c\n", "B@C\n", ":include:l\n", ":include: m\n", ":include:no\n", ":drop:\n", ":fail: x\n", "x.\n", " y\n", "#\n", "a: b\n", "\"\n"}
	bits := []string{"a", "B", "+", "x", ":", ": ", ",", ", ", "\"", "\\", "/", "@", ".", " ", "\t", "#", "\n", "\n", "\na: ", "\n ", ":include:", ":include:l", ":fail:", ":drop:", "\r\n", "\x80", "owner-"}
	names := []string{"l", "m", "L", "l", "m.", "", "n"}
	for k := range 30000 {
		text := pieced(r, 12, rows...)
		if k%2 == 0 {
			text = pieced(r, 20, bits...)
		}
		var lists []List
		for range r.IntN(4) {
			s := pieced(r, 6, listed...)
			if r.IntN(3) == 0 {
				s = pieced(r, 12, bits...)
			}
			lists = append(lists, List{names[r.IntN(len(names))], s})
		}
		check(t, text, lists, pieced(r, 5, "a", "b", "+", "x", "X", "owner-"), "b+x", "B+X+y", "d+", "")
	}
}

// P14.4: a line that has a fault changes nothing for all others, but for which
// lines they are.
func TestEachByItself(t *testing.T) {
	r := rand.New(rand.NewPCG(14, 4))
	good := []string{"a: b\n", "b: a@x, \\c\n", "C: :include:l\n", "d: \":fail: no, not\"\n", "e: :drop:\n", "f+g: /h,\n i\n", "owner-a: z\n"}
	wrong := []string{"x\n", "y: z.\n", "y y: z\n", "w: :drop:, z\n", "v: z, :fail: u\n", "t: :include:\n", "s: " + strings.Repeat("z,", 16) + "z\n", "r: z@" + long(64) + "\n", "q: \"\n", "p: z,\n"}
	for range 3000 {
		var rows, clean []string
		k := 0
		for _, row := range good {
			for range r.IntN(2) {
				k = r.IntN(len(wrong))
				rows = append(rows, wrong[k])
			}
			rows, clean = append(rows, row), append(clean, row)
			// The key of one that holds makes all behind it faults.
			if r.IntN(3) == 0 {
				key, _, _ := strings.Cut(clean[r.IntN(len(clean))], ":")
				rows = append(rows, strings.ToUpper(key)+": other\n")
			}
		}
		lists := []List{{"l", "ann\n"}}
		x, faults := Parse(strings.Join(rows, ""), lists)
		y, none := Parse(strings.Join(clean, ""), lists)
		if none != nil || len(faults) < len(rows)-len(clean)-1 {
			t.Fatal(rows, faults, none)
		}
		if !slices.Equal(x.Keys(), y.Keys()) {
			t.Fatalf("%q: %q, not %q", rows, x.Keys(), y.Keys())
		}
		for _, key := range y.Keys() {
			l, by, is := x.Find(key)
			m, _, _ := y.Find(key)
			if !slices.Equal(l, m) || by != key || !is {
				t.Fatalf("%q: Find(%q): %v, %q, %v, not %v", rows, key, l, by, is, m)
			}
		}
	}
	x, faults := Parse("", []List{{"l", "ann\n:drop:\nx.\nANN\n\\bob\n:fail: x\n y\n\"\n/box\n"}})
	l, is := x.List("l")
	if !slices.Equal(texts(l), []string{"ann", `\bob`, "/box"}) || !is || len(faults) != 5 {
		t.Error(l, is, faults)
	}
}

// P14.4: Find tells the targets of just one line that holds.
func TestOneLine(t *testing.T) {
	for text, want := range map[string][]string{
		"a: b\nA: c\na: d\n":           {"b"},
		"a: b,\na: c\nA: d\n":          {"c"},
		"a: :include:no\na: c\n":       {":include:no"},
		"a:\na+x: z\na: d, e\na: f\n":  {"d", "e"},
		"\"a\n\"a\": g\na: h\n":        {"g"},
		"a: b\n , \n , c\na: d":        {"d"},
		"a: b\n\n# a: c\n, d\nA: e\n ": {"b"},
	} {
		x := check(t, text, nil)
		l, by, is := x.Find("A+y")
		if !slices.Equal(texts(l), want) || by != "a" || !is {
			t.Errorf("%q: %q, %q, %v, not %q", text, texts(l), by, is, want)
		}
	}
}

// P14.5: the case of keys and of local parts counts for nothing.
func TestCase(t *testing.T) {
	r := rand.New(rand.NewPCG(14, 5))
	other := func(s string) string {
		b := []byte(s)
		for i, c := range b {
			if r.IntN(2) == 0 && ('a' <= c && c <= 'z' || 'A' <= c && c <= 'Z') {
				b[i] = c ^ 32
			}
		}
		return string(b)
	}
	for range 3000 {
		text := other("team") + ": " + other("ann") + ", \\" + other("bob") + "\n" + other("owner-team") + ": x\n" + other("team") + ": y"
		x, faults := Parse(text, nil)
		l, by, is := x.Find(other("team+news"))
		if !slices.Equal(texts(l), []string{"ann", `\bob`}) || by != "team" || !is || !x.Owner(other("team")) || !slices.Equal(x.Keys(), []string{"owner-team", "team"}) {
			t.Fatal(text, l, by, is)
		}
		if !slices.Equal(faults, []Fault{{"", 3, api.ErrThere}}) {
			t.Fatal(text, faults)
		}
	}
	if l, by, is := check(t, "[: a\n{: b\n^: c\n~: d\n", nil).Find("^"); by != "^" || !is || l[0].Name != "c" {
		t.Error(l, by, is)
	}
}

// R3: what is answered is new memory, and what is handed in is only read.
func TestNotKept(t *testing.T) {
	text, lists := "a: b, c\nd: x.\n", []List{{"l", "ann\nbob"}, {"l", ""}}
	x, faults := Parse(text, lists)
	lists[0], lists[1] = List{"m", "x."}, List{}
	faults[0].Line = 9
	for range 2 {
		l, _, _ := x.Find("a")
		m, _ := x.List("l")
		keys := x.Keys()
		if !slices.Equal(texts(l), []string{"b", "c"}) || !slices.Equal(texts(m), []string{"ann", "bob"}) || !slices.Equal(keys, []string{"a"}) {
			t.Fatal(l, m, keys)
		}
		l[0], m[0], keys[0] = Target{}, Target{}, "z"
		_, _ = append(l[:1], Target{}), append(m[:1], Target{})
	}
	if _, is := x.List("m"); is {
		t.Error("kept")
	}
	in := []List{{"l", "ann"}, {"l", "x"}}
	y, _ := Parse(text, in)
	if _, is := y.List("l"); !is || in[0] != (List{"l", "ann"}) || in[1] != (List{"l", "x"}) {
		t.Error(in)
	}
}

// R1: whatever is handed in has an answer, in time that grows with it.
func TestFarTooLong(t *testing.T) {
	for _, piece := range []string{"a", ".", "a.", "/", "\\", "@", "\"", "\\\"", ":fail: ", "(", "+", " ", "\n", "\x80", "a: b\n"} {
		s := strings.Repeat(piece, 1<<20)
		for _, front := range []string{"", "/", `\`, ":include:", ":fail:", ":drop:", "\"", "a@"} {
			if x, e := ParseTarget(front + s); e == api.OK || x != (Target{}) {
				t.Errorf("%q, %q: %v, %d", front, piece, x, e)
			}
		}
		for kind := range 9 {
			if got := (Target{kind, api.Addr{}, s}).Text(); got != "" {
				t.Errorf("%d, %q: %d", kind, piece, len(got))
			}
		}
		if got := (Target{Kind: Address, Addr: api.Addr{Local: s, Domain: s}}).Text(); got != "" || MayName(s) {
			t.Errorf("%q: %d", piece, len(got))
		}
		x, faults := Parse(s, []List{{s, s}, {"l", s}})
		if !slices.Equal(faults, []Fault{{"", 0, api.ErrLong}, {s, 0, api.ErrName}, {"l", 0, api.ErrLong}}) {
			t.Errorf("%q: %d faults", piece, len(faults))
		}
		if l, by, is := x.Find(s); l != nil || by != "" || is || x.Owner(s) {
			t.Errorf("%q: %v", piece, l)
		}
	}
	many := make([]List, 1<<17)
	for i := range many {
		many[i] = List{fmt.Sprintf("n%d", i/2), ""}
	}
	if _, faults := Parse("", many); len(faults) != len(many)/2 || faults[1] != (Fault{"n1", 0, api.ErrThere}) {
		t.Error(len(faults))
	}
}
