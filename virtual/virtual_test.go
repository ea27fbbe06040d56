package virtual

import (
	"fmt"
	"math/rand/v2"
	"regexp"
	"slices"
	"strings"
	"testing"

	"postrider/addr"
	"postrider/api"
	"postrider/lines"
)

// label is a domain's label, told as an expression; its length is not.
const label = "[A-Za-z0-9](?:[-A-Za-z0-9]*[A-Za-z0-9])?"

// Keys and values, told as expressions; the lengths of domains are not.
var (
	nameTold = regexp.MustCompile(`\A@(\*\.)?(` + label + `(?:\.` + label + `)*)\z`)
	failTold = regexp.MustCompile(`\A:fail:[ \t]*([!-~]|[!-~][ -~]{0,98}[!-~])[ \t]*\z`)
	userTold = regexp.MustCompile(`\A((?s:.)[^+]*)(\+(?s:.*))?\z`)
	inTold   = regexp.MustCompile(`%(?s:.?)`)
	longTold = regexp.MustCompile(`[^.@]{64}`)
)

// lower answers a text with letters of ASCII in lower case.
func lower(s string) string {
	return strings.Map(func(r rune) rune {
		if 'A' <= r && r <= 'Z' {
			r += 32
		}
		return r
	}, s)
}

// normalTold is an address's normal form as a text, that no other one has.
func normalTold(local, domain string) string {
	if lower(local) == "postmaster" {
		local = "postmaster"
	}
	return local + "@" + lower(domain)
}

// keyTold is a key's normal form, nothing of what is no key.
func keyTold(s string) string {
	if a, e := addr.Parse(s); e == api.OK {
		return normalTold(a.Local, a.Domain)
	}
	if m := nameTold.FindStringSubmatch(s); m != nil && !longTold.MatchString(s) && len(m[2]) <= 255 {
		return lower(s)
	}
	return ""
}

// filledTold is the address that a value tells of a user and a +detail.
func filledTold(key, value, user, plusDetail string) (api.Addr, bool) {
	may := true
	if key[0] == '@' {
		value = inTold.ReplaceAllStringFunc(value, func(s string) string {
			in, is := map[string]string{"%u": user, "%d": plusDetail, "%%": "%"}[s]
			may = may && is
			return in
		})
	}
	a, e := addr.Parse(value)
	return a, may && e == api.OK
}

// rowTold is an entry that holds.
type rowTold struct {
	key, by string
	values  []string
}

// told is a table, and what is wrong with its text.
type told struct {
	rows   []rowTold
	faults []lines.Fault
}

// parseTold is Parse, told line by line over the entries that lines tells.
func parseTold(text string) *told {
	x := &told{}
	entries, wrong := lines.Parse(text, true)
	at, most := map[int]lines.Fault{}, 0
	for _, f := range wrong {
		at[f.Line], most = f, max(most, f.Line)
	}
	for _, entry := range entries {
		key := keyTold(entry.Key)
		may := key != ""
		if may && !(len(entry.Values) == 1 && failTold.MatchString(entry.Values[0])) {
			for _, value := range entry.Values {
				_, is := filledTold(key, value, "u", "")
				may = may && is
			}
		}
		there := slices.ContainsFunc(x.rows, func(row rowTold) bool { return row.key == key })
		switch {
		case !may:
			at[entry.Line], most = lines.Fault{Line: entry.Line, Code: api.ErrForm}, max(most, entry.Line)
		case there:
			at[entry.Line], most = lines.Fault{Line: entry.Line, Code: api.ErrThere}, max(most, entry.Line)
		default:
			x.rows = append(x.rows, rowTold{key, entry.Key, entry.Values})
		}
	}
	for i := range most + 1 {
		if f, is := at[i]; is {
			x.faults = append(x.faults, f)
		}
	}
	return x
}

// rank tells how near a key is to an address, and 0, if it tells nothing of it.
func rank(key, local, user, domain string) int {
	over, below := strings.CutPrefix(key, "@*.")
	switch {
	case key == normalTold(local, domain):
		return 1 << 12
	case key == normalTold(user, domain):
		return 1 << 11
	case key == "@"+lower(domain):
		return 1 << 10
	case below && strings.HasSuffix(lower(domain), "."+over) && len(domain) > len(over)+1:
		return len(over)
	}
	return 0
}

// findTold is Find, told row by row.
func (x *told) findTold(a api.Addr) (Answer, bool) {
	if !addr.May(a) {
		return Answer{}, false
	}
	local := strings.TrimSuffix(normalTold(a.Local, ""), "@")
	m := userTold.FindStringSubmatch(local)
	var best rowTold
	most := 0
	for _, row := range x.rows {
		if r := rank(row.key, local, m[1], a.Domain); r > most {
			best, most = row, r
		}
	}
	if most == 0 {
		return Answer{}, false
	}
	answer := Answer{By: best.by}
	if m := failTold.FindStringSubmatch(best.values[0]); m != nil {
		answer.Fail = m[1]
		return answer, true
	}
	for _, value := range best.values {
		to, is := filledTold(best.key, value, m[1], m[2])
		if !is {
			return Answer{By: best.by, Fail: "bad target"}, true
		}
		answer.Targets = append(answer.Targets, to)
	}
	return answer, true
}

// isTold is Is, told row by row.
func (x *told) isTold(domain string) bool {
	return slices.ContainsFunc(x.rows, func(row rowTold) bool {
		if over, below := strings.CutPrefix(row.key, "@*."); below {
			return strings.HasSuffix(lower(domain), "."+over) && len(domain) > len(over)+1
		}
		return row.key[strings.LastIndexByte(row.key, '@')+1:] == lower(domain)
	})
}

// same tells whether two answers are.
func same(a, b Answer) bool {
	return slices.Equal(a.Targets, b.Targets) && a.Fail == b.Fail && a.By == b.By
}

// mail is the address that a text tells.
func mail(s string) api.Addr {
	a, e := addr.Parse(s)
	if e != api.OK {
		panic(s)
	}
	return a
}

// tells is what an answer says, as one text.
func tells(a Answer, is bool) string {
	if !is {
		return "none" + a.By + a.Fail + strings.Repeat("?", len(a.Targets))
	}
	s := a.By + ">"
	if a.Fail != "" {
		s += "!" + a.Fail
	}
	for _, to := range a.Targets {
		s += " " + addr.Text(to)
	}
	return s
}

// check holds what Parse, and its table, answer against what is told.
func check(t *testing.T, text string, of ...api.Addr) *Table {
	t.Helper()
	x, faults := Parse(text)
	want := parseTold(text)
	if !slices.Equal(faults, want.faults) || x.Len() != len(want.rows) {
		t.Fatalf("Parse(%q): %v, %d, not %v, %d", text, faults, x.Len(), want.faults, len(want.rows))
	}
	for _, row := range want.rows {
		local, domain := row.key[:strings.LastIndexByte(row.key, '@')], row.key[strings.LastIndexByte(row.key, '@')+1:]
		domain = strings.TrimPrefix(domain, "*.")
		for _, local := range []string{local, local + "+x", "x+y", "PostMaster", "a b+"} {
			of = append(of, api.Addr{Local: local, Domain: domain}, api.Addr{Local: local, Domain: "A." + strings.ToUpper(domain)})
		}
	}
	for _, a := range of {
		got, is := x.Find(a)
		answer, was := want.findTold(a)
		if is != was || !same(got, answer) {
			t.Fatalf("Parse(%q): Find(%v): %v, %v, not %v, %v", text, a, got, is, answer, was)
		}
		for _, domain := range []string{a.Domain, "b." + a.Domain, "." + a.Domain} {
			if got, want := x.Is(domain), want.isTold(domain); got != want {
				t.Fatalf("Parse(%q): Is(%q): %v", text, domain, got)
			}
		}
	}
	return x
}

// short goes through all texts of pieces, of so many pieces at most.
func short(pieces []string, most int, each func(string)) {
	var longer func(s string, many int)
	longer = func(s string, many int) {
		each(s)
		if many == most {
			return
		}
		for _, piece := range pieces {
			longer(s+piece, many+1)
		}
	}
	longer("", 0)
}

// long answers a text of so many letters.
func long(many int) string { return strings.Repeat("x", many) }

// domainOf answers a domain's name of so many bytes, 63 of them in most labels.
func domainOf(many int) string {
	return strings.TrimSuffix(strings.Repeat(long(63)+".", 4)[:many-1], ".") + "y"
}

// row answers the line of a key and its values.
func row(key string, values ...string) string {
	return lines.Text([]lines.Entry{{Key: key, Values: values}})
}

// P15.1, P15.2: the chapter's examples.
func TestExamples(t *testing.T) {
	x, faults := Parse("ann@v.com: a@x, b@y\n@v.com: %u%d@home.org\n@*.v.com: :fail: gone\n")
	if faults != nil || x.Len() != 3 {
		t.Error(faults, x.Len())
	}
	for s, want := range map[string]Answer{
		"ann+z@V.com":   {Targets: []api.Addr{{Local: "a", Domain: "x"}, {Local: "b", Domain: "y"}}, By: "ann@v.com"},
		"bob+z@v.com":   {Targets: []api.Addr{{Local: "bob+z", Domain: "home.org"}}, By: "@v.com"},
		"bob@a.b.v.com": {Fail: "gone", By: "@*.v.com"},
	} {
		if got, is := x.Find(mail(s)); !is || !same(got, want) {
			t.Errorf("Find(%s): %v, %v", s, got, is)
		}
	}
	if got, is := x.Find(mail("ann@w.com")); is || !same(got, Answer{}) {
		t.Error(got, is)
	}
}

// P15.1: a key is an address's text, or an @ and a domain's name, or @*. and one.
func TestKeys(t *testing.T) {
	for s, want := range map[string]bool{
		"ann@v.com": true, "Ann+x@V.com": true, `"a b"@v`: true, `"ann"@v`: true, "*@v": true, "a.b@v": true, "%u@v": true, "ann@[1.2.3.4]": true,
		"@v.com": true, "@v": true, "@1-2.3": true, "@" + long(63): true, "@" + domainOf(255): true, long(64) + "@" + domainOf(255): true,
		"@*.v.com": true, "@*.v": true, "@*." + long(63): true, "@*." + domainOf(255): true,
		"v.com": false, "ann": false, "ann@": false, "ann@v_": false, "ann@v.": false, "a b@v": false, `""@v`: false, "a..b@v": false, "a@b@c": false, "ann@*.v": false, "<a@v>": false, "ann@v ": false,
		long(65) + "@v": false, "ann@" + long(64): false, "ann@" + domainOf(256): false,
		"@": false, "@.": false, "@v.": false, "@.v": false, "@-v": false, "@v-": false, "@v..w": false, "@v_w": false, "@ v": false, "@@v": false, "@*": false, "@*v": false, "@" + long(64): false, "@" + domainOf(256): false,
		"@[1.2.3.4]": false, "@*.[1.2.3.4]": false, "@[]": false,
		"@*.": false, "@*..v": false, "@*.v.": false, "@*.-v": false, "@*.*.v": false, "@**.v": false, "*.v": false, "@ *.v": false, "@*.@v": false, "@*." + long(64): false, "@*." + domainOf(256): false, "*": false, "@%u": false,
	} {
		if got := keyTold(s) != ""; got != want {
			t.Errorf("told of %q: %v", s, got)
		}
		x, faults := Parse(row(s, "a@b"))
		if got := faults == nil; got != want || got != (x.Len() == 1) {
			t.Errorf("key %q: %v, %d", s, faults, x.Len())
		}
		if !want && !slices.Equal(faults, []lines.Fault{{Line: 1, Code: api.ErrForm}}) {
			t.Errorf("key %q: %v", s, faults)
		}
	}
}

// P15.1: short keys, whatever they have, and each byte at each place of keys.
func TestEachKey(t *testing.T) {
	short(strings.Split("aA-.@*[1\"%", ""), 5, func(s string) {
		if s != "" {
			check(t, row(s, "a@b"))
		}
	})
	for _, s := range []string{"ann@v.com", `"a b"@v`, "@v.com", "@*.v.com", "@*." + long(62)} {
		for i := range len(s) + 1 {
			for b := range 256 {
				c := string([]byte{byte(b)})
				check(t, row(s[:i]+c+s[i:], "a@b"))
				if i < len(s) {
					check(t, row(s[:i]+c+s[i+1:], "a@b"))
				}
			}
		}
	}
}

// P15.1: a value is an address's text, with stand-ins behind whole and wild keys,
// or a :fail: alone.
func TestValues(t *testing.T) {
	for _, c := range []struct {
		value          string
		exact, ofOther bool
	}{
		{"a@b", true, true}, {"A+b@B.c", true, true}, {`"a b"@c`, true, true}, {"a@[1.2.3.4]", true, true}, {long(64) + "@b", true, true}, {"a@" + domainOf(255), true, true},
		{"a", false, false}, {"@b", false, false}, {"a@", false, false}, {"a b@c", false, false}, {"a@b@c", false, false}, {" a@b", false, false}, {"<a@b>", false, false}, {"", false, false}, {`\a`, false, false}, {"/a", false, false}, {":drop:", false, false}, {":include:a", false, false},
		{long(65) + "@b", false, false}, {"a@" + long(64), false, false}, {"a@" + domainOf(256), false, false},
		{"%u@b", true, true}, {"%u%d@b", true, true}, {"a%d@b", true, true}, {"a%%b@c", true, true}, {"%u.%u@b", true, true}, {`"%u %d"@b`, true, true}, {"%%@b", true, true},
		{"%d@b", true, false}, {"%u.%d@b", true, false}, {".%u@b", false, false}, {"%d%d@b", true, false},
		{"a@%u", false, true}, {"a@%u.b", false, true}, {"a@b%d", false, true}, {"%u@%u", false, true}, {"a@%d", false, false}, {"a@-%u", false, false}, {"a@%u.", false, false}, {"a@[1.2.3.%u]", false, false}, {"a@%%", false, false}, {"a%u", false, false},
		{"%@b", true, false}, {"%x@b", true, false}, {"%U@b", true, false}, {"%D@b", true, false}, {"a%@b", true, false}, {"%%%@b", true, false}, {"%%%%@b", true, true}, {"%%%u@b", true, true}, {"%%u@b", true, true}, {"% u@b", false, false}, {"a@b%", false, false}, {"%", false, false}, {"%u", false, false}, {`"a%"@b`, true, false}, {`"a%\"u"@b`, true, false},
		{long(62) + "%u@b", true, true}, {long(63) + "%u@b", false, true}, {long(64) + "%u@b", false, false}, {strings.Repeat("%u", 64) + "@b", false, true}, {strings.Repeat("%u", 65) + "@b", false, false}, {long(64) + "%d@b", false, true},
		{":fail: gone", true, true}, {":fail:gone", true, true}, {":fail:\t gone for good \t", true, true}, {":fail::fail:", true, true}, {":fail:a@b", true, true}, {":fail:" + long(100), true, true}, {":fail:  " + long(100) + " ", true, true}, {":fail: 100% %x", true, true}, {":fail:%", true, true},
		{":fail:", false, false}, {":fail: \t", false, false}, {":fail:" + long(101), false, false}, {":fail: a\tb", false, false}, {":Fail: a", false, false}, {":fail a", false, false}, {" :fail: a", false, false}, {"fail: a", false, false}, {":fail", false, false},
	} {
		for key, want := range map[string]bool{"ann@v": c.exact, `"a b"@v`: c.exact, "@v": c.ofOther, "@*.v": c.ofOther} {
			text := row(key, c.value)
			x, faults := Parse(text)
			if got := faults == nil; got != want || got != (x.Len() == 1) || !got && faults[0] != (lines.Fault{Line: 1, Code: api.ErrForm}) {
				t.Errorf("%q: %v, %d", text, faults, x.Len())
			}
			check(t, text)
			text = row(key, "a@b", c.value)
			if _, faults := Parse(text); (faults == nil) != (want && !strings.HasPrefix(c.value, ":fail:")) {
				t.Errorf("%q: %v", text, faults)
			}
			check(t, text)
			check(t, row(key, c.value, "a@b"))
			check(t, row(key, c.value, c.value))
		}
	}
}

// P15.1, P15.2: short values, whatever they have, and each byte at each place of
// values.
func TestEachValue(t *testing.T) {
	of := []api.Addr{mail("a+b@v"), mail("a@V"), mail("+a@v"), mail("a+@v"), mail(`"a b+c d"@v`), mail(`"%u+%d"@v`), mail("POSTmaster@v")}
	short(strings.Split("a%ud@.\" ", ""), 4, func(s string) {
		for _, key := range []string{"@v", "@*.v", "a@v"} {
			check(t, row(key, s), of...)
			check(t, row(key, s+"@b"), of...)
		}
	})
	short(strings.Split("a%:@\" \t", ""), 4, func(s string) { check(t, row("@v", ":fail:"+s), of...) })
	for _, s := range []string{"ann@b.c", "%u@b.c", "%u%d@b", `"%u %d"@b`, "a@%u.b", ":fail: gone, 1", ":fail:" + long(99)} {
		for i := range len(s) + 1 {
			for b := range 256 {
				c := string([]byte{byte(b)})
				for _, key := range []string{"@v", "a@v"} {
					check(t, row(key, s[:i]+c+s[i:]), of...)
					if i < len(s) {
						check(t, row(key, s[:i]+c+s[i+1:]), of...)
					}
				}
			}
		}
	}
}

// P15.1: the faults, by lines, those of lines first of an entry, then ErrForm, then
// ErrThere; and how many entries hold beside them.
func TestFaults(t *testing.T) {
	in := func(faults ...lines.Fault) []lines.Fault { return faults }
	form := func(line int) lines.Fault { return lines.Fault{Line: line, Code: api.ErrForm} }
	there := func(line int) lines.Fault { return lines.Fault{Line: line, Code: api.ErrThere} }
	full := func(line int) lines.Fault { return lines.Fault{Line: line, Code: api.ErrFull} }
	many := strings.Repeat("a@b,", 16)
	quoted := `"\"ann\"@v"` // an address's text in quotes, itself in quotes
	for _, c := range []struct {
		text string
		want []lines.Fault
		many int
	}{
		{"", nil, 0},
		{"# who\n\n \n", nil, 0},
		{"@v: a@b", nil, 1},
		{"@v: a@b,\n c@d\n@w: :fail: no\n", nil, 2},
		{"@v\n@w:\n@x: ,\n@y: a@b,\n@z: a@b\n", in(form(1), form(2), form(3), form(4)), 1},
		{" @v: a@b\n@w: a@b\n", in(form(1)), 1},
		{"v: a@b\n\n@w: a\n#\n@x: %@b\n@y: a@b\n", in(form(1), form(3), form(5)), 1},
		{"@v: a@b, c\n@w: c, a@b\n@x: a@b, :fail: no\n@y: :fail: no, a@b\n@z: :fail: no, :fail: no\n", in(form(1), form(2), form(3), form(4), form(5)), 0},
		{"@v: \":fail: no, not\"\n", nil, 1},
		{"@v: a@b\n@V: a@b\n@*.v: a@b\n@*.V: a@b\nann@v: a@b\nAnn@v: a@b\n", in(there(2), there(4), there(6)), 3},
		{"ann@v: a@b\n" + quoted + ": c@d\n", in(there(2)), 1},
		{quoted + ": a@b\nx: y\nann@V: c@d\n", in(form(2), there(3)), 1},
		{quoted + ": a@b\nANN@v: c@d\n", nil, 2},
		{"POSTmaster@v: a@b\n\"\\\"PostMaster\\\"@V\": c@d\n", in(there(2)), 1},
		{"\"\\\"postmaster\\\"@v\": c@d\nPOSTMASTER@V: a@b\n", in(there(2)), 1},
		// What has a fault of its own is no entry, so nothing of its key stands ahead.
		{quoted + ": c\nann@V: c@d\n", in(form(1)), 1},
		{quoted + ": c@d\nann@v: x\n", in(form(2)), 1},
		{"ann@v: x\nann@V: c@d\n", in(form(1), there(2)), 0},
		{"@v: " + many + "c@d\n", in(full(1)), 0},
		{"v: " + many + "c\n", in(full(1)), 0},
		{"@v: " + strings.TrimSuffix(many, ",") + "\n", nil, 1},
		{"@v: a@b\n@V: " + many + "c\n", in(full(2)), 1},
		{"@v: a@b\n@V: c\n", in(there(2)), 1},
		{"@v: a@b\n#" + long(8192), in(lines.Fault{Line: 0, Code: api.ErrLong}), 0},
		{"@v: a@b\r\n@w: c@d\r", nil, 2},
		{"@v: a@b\x80\n@w\x00: c@d\n@x: \x7f\n", in(form(1), form(2), form(3)), 0},
	} {
		x, faults := Parse(c.text)
		if !slices.Equal(faults, c.want) || x.Len() != c.many {
			t.Errorf("Parse(%q): %v, %d, not %v, %d", c.text, faults, x.Len(), c.want, c.many)
		}
		check(t, c.text)
	}
}

// P15.1: a table has 64 entries at most, those among them that have a fault of
// this chapter.
func TestFull(t *testing.T) {
	text := ""
	for i := range 64 {
		text += fmt.Sprintf("@d%d: %%u@home%d\n", i, i)
	}
	x := check(t, text)
	if x.Len() != 64 {
		t.Error(x.Len())
	}
	if x, faults := Parse(text + "@v: a@b\n"); x.Len() != 64 || !slices.Equal(faults, []lines.Fault{{Line: 65, Code: api.ErrFull}}) {
		t.Error(x.Len(), faults)
	}
	for i := range 64 {
		if got := tells(x.Find(mail(fmt.Sprintf("a+b@D%d", i)))); got != fmt.Sprintf("@d%d> a@home%d", i, i) {
			t.Error(got)
		}
	}
	if x, faults := Parse(strings.Replace(text, "@d7", "d7", 1) + "@v: a@b\n"); x.Len() != 63 || !slices.Equal(faults, []lines.Fault{{Line: 8, Code: api.ErrForm}, {Line: 65, Code: api.ErrFull}}) {
		t.Error(x.Len(), faults)
	}
}

// P15.2: whether a domain is virtual.
func TestIs(t *testing.T) {
	x, faults := Parse("Ann+x@Exact.com: a@b\n@Whole.com: a@b\n@*.Wild.com: :fail: x\nann@[1.2.3.4]: a@b\n@faulty.com: a\nfaulty.com: a@b\n@*.faulty.com: a@b, :fail: x\n@*.deep.wild.com: a@b\n")
	if len(faults) != 3 {
		t.Fatal(faults)
	}
	for s, want := range map[string]bool{
		"exact.com": true, "EXACT.COM": true, "a.exact.com": false, "xexact.com": false, "exact.com.": false, "exact": false, "com": false,
		"whole.com": true, "wHOLE.com": true, "a.whole.com": false, "@whole.com": false, ".whole.com": false,
		"wild.com": false, "a.wild.com": true, "A.WILD.com": true, "a.b.c.wild.com": true, "awild.com": false, ".wild.com": false, "*.wild.com": true, "deep.wild.com": true, "a.deep.wild.com": true, "a.wild.com.x": false, "a.wild.com ": false,
		"[1.2.3.4]": true, "[1.2.3.5]": false, "a.[1.2.3.4]": false,
		"faulty.com": false, "a.faulty.com": false, "": false, " ": false, "other.com": false, "b": false,
		long(70) + ".wild.com": true, "..wild.com": true, "\x80.wild.com": true,
	} {
		if got := x.Is(s); got != want {
			t.Errorf("Is(%q): %v", s, got)
		}
	}
}

// P15.2, P15.3: the nearest entry of an address is its own, whatever stands behind.
func TestNearest(t *testing.T) {
	rows := []string{
		"ann+x@a.b.v.com: exact@y", "ann@a.b.v.com: user@y", "@a.b.v.com: whole@y", "@*.b.v.com: :fail: b", "@*.v.com: v@y", "@*.com: com@y",
	}
	wants := []string{
		"ann+x@a.b.v.com> exact@y", "ann@a.b.v.com> user@y", "@a.b.v.com> whole@y", "@*.b.v.com>!b", "@*.v.com> v@y", "@*.com> com@y", "none",
	}
	r := rand.New(rand.NewPCG(15, 3))
	others := []string{"ann+x@b.v.com: n@y", "@b.v.com: n@y", "@*.a.b.v.com: n@y", "ann+y@a.b.v.com: n@y", "ann+x+y@a.b.v.com: n@y", "x@a.b.v.com: n@y", "+x@a.b.v.com: n@y", "bob@a.b.v.com: n@y", "@*.w.com: n@y", "@a.b.v: n@y", "@*.b.v: n@y", "@*.xb.v.com: n@y"}
	for first := range len(rows) + 1 {
		for range 200 {
			l := slices.Concat(rows[first:], others)
			r.Shuffle(len(l), func(i, j int) { l[i], l[j] = l[j], l[i] })
			x, faults := Parse(strings.Join(l, "\n"))
			if faults != nil {
				t.Fatal(l, faults)
			}
			for _, domain := range []string{"a.b.v.com", "A.b.V.Com"} {
				if got := tells(x.Find(api.Addr{Local: "ann+x", Domain: domain})); got != wants[first] {
					t.Fatalf("%q: %s, not %s", l, got, wants[first])
				}
			}
		}
	}
	x, faults := Parse(strings.Join(slices.Concat(rows, []string{"@b.v.com: below@y", "ann@com: top@y"}), "\n"))
	for s, want := range map[string]string{
		"ann@a.b.v.com": "ann@a.b.v.com> user@y", "ann+y@a.b.v.com": "ann@a.b.v.com> user@y", "ann+@a.b.v.com": "ann@a.b.v.com> user@y", "ann+x+z@a.b.v.com": "ann@a.b.v.com> user@y",
		"Ann@a.b.v.com": "@a.b.v.com> whole@y", "ann.x@a.b.v.com": "@a.b.v.com> whole@y", "+ann@a.b.v.com": "@a.b.v.com> whole@y", "ANN+x@a.b.v.com": "@a.b.v.com> whole@y",
		"ann@b.v.com": "@b.v.com> below@y", "ann@c.b.v.com": "@*.b.v.com>!b", "ann@x.a.b.v.com": "@*.b.v.com>!b", "ann@v.com": "@*.com> com@y", "ann@x.v.com": "@*.v.com> v@y", "ann@xb.v.com": "@*.v.com> v@y", "ann@x.com": "@*.com> com@y", "ann@com": "ann@com> top@y", "bob@com": "none", "ann@a.b.v": "none", "ann@[1.2.3.4]": "none",
	} {
		if got := tells(x.Find(mail(s))); got != want || faults != nil {
			t.Errorf("%s: %s, not %s", s, got, want)
		}
	}
}

// P15.2: postmaster is who it is, in whatever case; another Local is not.
func TestPostmaster(t *testing.T) {
	x, faults := Parse("PostMaster@v: pm@x\n@v: %u%d@y\n@w: %u@y\nAnn@v: A@x\n\"\\\"ann\\\"@v\": a@x\n")
	for s, want := range map[string]string{
		"postmaster@v": "PostMaster@v> pm@x", "POSTMASTER@V": "PostMaster@v> pm@x", "POSTMASTER+a@v": "PostMaster@v> pm@x", "postmaster+@v": "PostMaster@v> pm@x",
		"postmasters@v": "@v> postmasters@y", "+postmaster@v": "@v> +postmaster@y", "a+PostMaster@v": "@v> a+PostMaster@y", "POSTMASTER@w": "@w> postmaster@y",
		"Ann@v": "Ann@v> A@x", "Ann+x@v": "Ann@v> A@x", "ann@v": `"ann"@v> a@x`, "ANN@v": "@v> ANN@y", "aNN+X@v": "@v> aNN+X@y",
	} {
		if got := tells(x.Find(mail(s))); got != want || faults != nil {
			t.Errorf("%s: %s, not %s", s, got, want)
		}
	}
}

// P15.2: stand-ins, put in once and as they are; what is no address then is a bad
// target, and so are all beside it.
func TestStandIns(t *testing.T) {
	for _, c := range []struct{ value, of, want string }{
		{"%u@y", "bob", "bob@y"}, {"%u@y", "Bob+z", "Bob@y"}, {"%u%d@y", "bob+z", "bob+z@y"}, {"%u%d@y", "bob", "bob@y"}, {"%u%d@y", "bob+", "bob+@y"}, {"%u%d@y", "bob+x+y", "bob+x+y@y"}, {"%u%d@y", "+bob", "+bob@y"}, {"%u%d@y", "+bob+x", "+bob+x@y"}, {"%u%d@y", "+", "+@y"}, {"%u%d@y", "++", "++@y"},
		{"x%d@y", "bob+z", "x+z@y"}, {"x%d@y", "bob", "x@y"}, {"%u+shop%d@y", "bob+z", "bob+shop+z@y"}, {"%u.%u@y", "bob", "bob.bob@y"}, {"%%%u%%@Y", "bob", "%bob%@Y"}, {"%%u@y", "bob", "%u@y"}, {"%%%%@y", "bob", "%%@y"},
		{"%u%d@y", "%u+%d", "%u+%d@y"}, {"%u@y", "%", "%@y"}, {"%u%d@y", "%+u", "%+u@y"},
		{"x@%u.y", "bob", "x@bob.y"}, {"x@%u.y", "Bob-1+z", "x@Bob-1.y"}, {"x@%u.y", "a.b", "x@a.b.y"}, {"x@%u.y", "a_b", "!bad target"}, {"x@%u.y", "-b", "!bad target"}, {"x@y%d", "bob", "x@y"}, {"x@y%d", "bob+z", "!bad target"}, {"x@%u", "1", "x@1"},
		{"%u@y", `"a b"`, "!bad target"}, {"%u@y", `"a@b"`, "!bad target"}, {"%u@y", `"a@b@c"`, "!bad target"}, {"%u@y", `":fail: x"`, "!bad target"}, {"%u@y", `"a..b"`, "!bad target"}, {"%u@y", `"\"a\""`, "a@y"}, {"%u@y", `"\"a b\""`, `"a b"@y`}, {`"%u"@y`, `"a b"`, `"a b"@y`}, {`"%u%d"@y`, `"a b+c d"`, `"a b+c d"@y`}, {`"%u"@y`, `"a\"b"`, "!bad target"}, {`"%u"@y`, `"a\\b"`, "ab@y"}, {`"%u"@y`, `"a\\"`, "!bad target"}, {`"%u"@y`, "bob", "bob@y"}, {"x%d@y", `"a b+c"`, "x+c@y"}, {"x%d@y", `"a+b c"`, "!bad target"}, {"x@y", `"a b"`, "x@y"},
		{"%u%u@y", long(32), long(64) + "@y"}, {"%u%u@y", long(33), "!bad target"}, {"x%u@y", long(63), long(64) + "@y"}, {"x%u@y", long(64), "!bad target"}, {"x@%u", long(63), "x@" + long(63)}, {"x@%u", long(64), "!bad target"}, {"x@" + domainOf(253) + "%u", "b", "x@" + domainOf(253) + "b"},
		{"%u@y", "PostMaster", "postmaster@y"}, {"a%u@y", "POSTMASTER", "apostmaster@y"},
		{":fail: %u%d %% %x", "bob+z", "!%u%d %% %x"},
	} {
		for _, key := range []string{"@v", "@*.v"} {
			local := mail(c.of + "@v").Local
			a := api.Addr{Local: local, Domain: strings.Replace(key[1:], "*", "A", 1)}
			x, faults := Parse(row(key, c.value))
			want := key + "> " + c.want
			if c.want[0] == '!' {
				want = key + ">" + c.want
			}
			if got := tells(x.Find(a)); got != want || faults != nil {
				t.Errorf("%q of %q: %s, not %s", c.value, c.of, got, want)
			}
			check(t, row(key, c.value), a)
			if strings.HasPrefix(c.value, ":fail:") {
				continue
			}
			x = check(t, row(key, "one@two", c.value, "%u%d@z"), a)
			if got, is := x.Find(a); c.want == "!bad target" && (!is || !same(got, Answer{Fail: "bad target", By: key})) {
				t.Errorf("%q of %q: %v", c.value, c.of, got)
			}
		}
	}
}

// P15.2: an exact key's values have no stand-ins, and stand as they are, in order.
func TestExactValues(t *testing.T) {
	x, faults := Parse("ann@v: %u@Y, %d%%@y, a%@y, c@d, C@D, c@d, \"\\\"a b\\\"@c\"\n")
	if got := tells(x.Find(mail("ann+x@v"))); got != `ann@v> %u@Y %d%%@y a%@y c@d C@D c@d "a b"@c` || faults != nil {
		t.Error(got, faults)
	}
	x, _ = Parse("@v: z@y, a@y, Z@Y, z@y, %u@b\n")
	if got := tells(x.Find(mail("ann+x@v"))); got != `@v> z@y a@y Z@Y z@y ann@b` {
		t.Error(got)
	}
	x, _ = Parse("ann@v: \":fail:\t %u, gone  away, 100% \t\"\n")
	if got := tells(x.Find(mail("ann@v"))); got != "ann@v>!%u, gone  away, 100%" {
		t.Error(got)
	}
}

// P15.2: By is the key as it stands; an address that may not be has no entry.
func TestBy(t *testing.T) {
	x, faults := Parse(`"\"a b\"@V.Com" : a@b` + "\n\"\\\"ann\\\"@v.com\": c@d\n@V.Com: e@f\n\"@*.V\\.Com\": g@h\nB@V.com: i@j")
	for a, want := range map[api.Addr]string{
		{Local: "a b", Domain: "v.com"}: `"a b"@V.Com`, {Local: "a b+c", Domain: "V.COM"}: `"a b"@V.Com`, {Local: "ann", Domain: "v.com"}: `"ann"@v.com`, {Local: "x", Domain: "v.cOM"}: "@V.Com", {Local: "x", Domain: "y.v.com"}: "@*.V.Com", {Local: "B", Domain: "v.com"}: "B@V.com",
		{}: "", {Local: "a"}: "", {Domain: "v.com"}: "", {Local: long(65), Domain: "v.com"}: "", {Local: "a\x80", Domain: "v.com"}: "", {Local: "a\t", Domain: "v.com"}: "", {Local: "\n", Domain: "v.com"}: "", {Local: "a", Domain: "v.com."}: "", {Local: "a", Domain: ".v.com"}: "", {Local: "a", Domain: "-.v.com"}: "", {Local: "a", Domain: "*.v.com"}: "", {Local: "a", Domain: long(64) + ".v.com"}: "", {Local: "a", Domain: " v.com"}: "",
	} {
		got, is := x.Find(a)
		if got.By != want || is != (want != "") || faults != nil {
			t.Errorf("Find(%q): %v, %v, not by %q, %v", a, got, is, want, faults)
		}
		if !is && !same(got, Answer{}) {
			t.Errorf("Find(%q): %v", a, got)
		}
	}
}

// P15.1, P15.2, edges: no table, and one that Parse did not make, tell nothing.
func TestNoTable(t *testing.T) {
	for _, x := range []*Table{nil, {}, new(Table)} {
		if got, is := x.Find(mail("a@b")); is || !same(got, Answer{}) || x.Is("b") || x.Is("") || x.Len() != 0 {
			t.Error(got, is)
		}
	}
	x, faults := Parse("")
	if x == nil || faults != nil || x.Len() != 0 || x.Is("") {
		t.Error(x, faults)
	}
}

// pieced answers a text that is put together of pieces by chance.
func pieced(r *rand.Rand, most int, pieces ...string) string {
	s := ""
	for range r.IntN(most + 1) {
		s += pieces[r.IntN(len(pieces))]
	}
	return s
}

// P15.1, P15.2: texts that are put together of lines, and of pieces of lines, are
// read as is told.
func TestPieces(t *testing.T) {
	r := rand.New(rand.NewPCG(15, 2))
	rows := []string{"a@v: b@x\n", "A@V: b@x\n", "\"\\\"a\\\"@v\": c@x, d@x\n", "a+b@v: e@x\n", "@v: %u%d@x\n", "@V: f@x\n", "@*.v: %u@%u.x, g@x\n", "@*.w.v: :fail: no\n", "@*.W.v: h@x\n", "@w.v: \"\\\"%u\\\"@x\"\n", "postmaster@v: i@x\n", "PostMaster@w.v: k@x\n", "\"\\\"postMaster\\\"@v\": l@x\n", "v: a@b\n", "@v: %x@y\n", "a@w.v: :fail: x, y\n", " , m@x\n", "#\n", "\n", "@x.w.v: n@x%d\n", "+@v: o@x\n"}
	bits := []string{"a", "A", "+", "@", "@v", "@*.", "v", "w.", ":", ": ", ",", ", ", "%u", "%d", "%", "\"", "\\", ".", " ", "\n", "\n", "\n@v: ", "\na@v: ", "\n@*.v: ", "\n ", "a@x", "%u@x", ":fail:", ":fail: x", "\r\n", "\x80", "postmaster"}
	for k := range 15000 {
		text := pieced(r, 14, rows...)
		if k%2 == 0 {
			text = pieced(r, 24, bits...)
		}
		local := pieced(r, 4, "a", "b", "+", "A", " ", "%", "u", "\"", "postmaster", "POSTMASTER", ".")
		domain := pieced(r, 2, "w.", "x.", "W.", "a.", ".") + "v"
		check(t, text, api.Addr{Local: local, Domain: domain}, api.Addr{Local: "a+b", Domain: domain}, api.Addr{Local: "A", Domain: "V"})
	}
}

// P15.3: an entry of another domain, and one that has a fault, change nothing, and
// neither does the case of domains.
func TestChangesNothing(t *testing.T) {
	r := rand.New(rand.NewPCG(15, 4))
	rows := []string{"a@v.w: b@x\n", "a+b@v.w: e@x\n", "@v.w: %u%d@x\n", "@*.w: g@x, %u@y\n", "@*.v.w: :fail: no\n", "postmaster@v.w: i@x\n"}
	others := []string{"a@v.y: z@z\n", "@y: z@z\n", "@*.y: z@z\n", "@w: z@z\n", "@*.z.w: z@z\n", "@x.v.v.w: z@z\n", "a@y.w: z@z\n", "v.w: z@z\n", "@*.x.v.w: %@z\n", "\"\\\"b\\\"@v.w\": :fail:\n", "\"\n", "@\n"}
	for range 5000 {
		var some, more []string
		for _, s := range rows {
			if r.IntN(2) == 0 {
				some, more = append(some, s), append(more, s)
			}
			more = append(more, others[r.IntN(len(others))])
		}
		// What has a key that was there says nothing.
		for _, s := range some {
			key, _, _ := strings.Cut(s, ":")
			more = append(more, strings.ToUpper(key)+": z@z\n")
		}
		x, _ := Parse(strings.Join(some, ""))
		y, _ := Parse(strings.Join(more, ""))
		for _, local := range []string{"a", "a+b", "a+c", "b+c", "postmaster", "+"} {
			for _, domain := range []string{"v.w", "u.v.w", "w.v.w", "v.v.w", "V.w"} {
				got, want := tells(y.Find(api.Addr{Local: local, Domain: domain})), tells(x.Find(api.Addr{Local: local, Domain: strings.ToUpper(domain)}))
				if got != want {
					t.Fatalf("%q, %q: %s@%s: %s, not %s", some, more, local, domain, got, want)
				}
			}
		}
	}
}

// P15.4: what a whole or a wild key tells keeps the user, where it says %u.
func TestKeepsUser(t *testing.T) {
	x, faults := Parse("@v: %u@home.org, %u%d@far.net, x+%u@z, \"\\\"%u\\\"@q\"\n@*.v: %u@home.org, %u%d@far.net, x+%u@z, \"\\\"%u\\\"@q\"\n")
	if faults != nil {
		t.Fatal(faults)
	}
	short(strings.Split("aB+.%!u", ""), 5, func(local string) {
		a := api.Addr{Local: local, Domain: "v"}
		if _, e := addr.Parse(local + "@v"); e != api.OK {
			return
		}
		for _, a.Domain = range []string{"v", "w.v"} {
			user, _, _ := addr.Split(local)
			got, is := x.Find(a)
			// A user alone may end in a point, as "a." of a.+b does, and is no dot-atom then.
			if _, e := addr.Parse(user + "@v"); e != api.OK {
				if !is || got.Fail != "bad target" || len(got.Targets) != 0 {
					t.Fatal(local, got, is)
				}
				continue
			}
			want := []api.Addr{{Local: user, Domain: "home.org"}, {Local: local, Domain: "far.net"}, {Local: "x+" + user, Domain: "z"}, {Local: user, Domain: "q"}}
			if !is || !slices.Equal(got.Targets, want) || got.Fail != "" {
				t.Fatal(local, got, is)
			}
		}
	})
}

// R3: what is answered is new memory.
func TestNotKept(t *testing.T) {
	x, faults := Parse("@v: %u@a, b@c\nann@v: d@e, f@g\nx\n")
	faults[0].Line = 9
	for range 2 {
		for s, want := range map[string]string{"bob@v": "@v> bob@a b@c", "ann@v": "ann@v> d@e f@g"} {
			got, is := x.Find(mail(s))
			if tells(got, is) != want {
				t.Fatal(got)
			}
			got.Targets[0] = api.Addr{}
			_ = append(got.Targets[:1], api.Addr{})
		}
	}
	if _, again := Parse("x\n"); again[0].Line != 1 {
		t.Error(again)
	}
}

// R1: whatever is handed in has an answer, in time that grows with it.
func TestFarTooLong(t *testing.T) {
	x, _ := Parse("@v: %u@a\n@*.v: b@c\nann@v: d@e\n")
	for _, piece := range []string{"a", ".", "a.", "@", "%", "%u", "\"", ":fail: ", "+", " ", "\n", "\x80", "@v: a@b\n", "*."} {
		s := strings.Repeat(piece, 1<<20)
		if y, faults := Parse(s); y.Len() != 0 || !slices.Equal(faults, []lines.Fault{{Line: 0, Code: api.ErrLong}}) {
			t.Errorf("%q: %d, %v", piece, y.Len(), faults)
		}
		for _, a := range []api.Addr{{Local: s, Domain: "v"}, {Local: "a", Domain: s}, {Local: "a", Domain: s + ".v"}} {
			if got, is := x.Find(a); is || !same(got, Answer{}) {
				t.Errorf("%q: %v", piece, got)
			}
		}
		if x.Is(s) {
			t.Errorf("%q", piece)
		}
	}
	value := strings.Repeat("%u", 4000) + "@b"
	if y, faults := Parse("@v: " + value); y.Len() != 0 || len(faults) != 1 {
		t.Error(faults)
	}
	value = strings.Repeat("%d", 4000) + "a@b"
	y, faults := Parse("@v: " + value)
	if got := tells(y.Find(mail("a@v"))); got != "@v> a@b" || faults != nil {
		t.Error(got, faults)
	}
	if got := tells(y.Find(mail("a+" + long(62) + "@v"))); got != "@v>!bad target" {
		t.Error(got)
	}
}
