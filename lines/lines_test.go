package lines

import (
	"fmt"
	"math/rand/v2"
	"regexp"
	"slices"
	"strings"
	"testing"

	"postrider/api"
)

// What stands in a text's entries, told as expressions.
const (
	quotedTold = `"(?:[^"\\]|\\.)*"`
	keyTold    = `[^": \t](?:[^":]*[^": \t])?`
	valueTold  = `[^", \t](?:[^",]*[^", \t])?`
)

var (
	lineEnd   = regexp.MustCompile(`\r?(?:\n|\z)`)
	passed    = regexp.MustCompile(`\A[ \t]*(?:#(?s:.*))?\z`)
	goesOn    = regexp.MustCompile(`\A[ \t]+((?s).*[^ \t])[ \t]*\z`)
	mayStand  = regexp.MustCompile(`\A[\t -~]*\z`)
	wholeKey  = regexp.MustCompile(`\A([^"]*[^" \t])[ \t]*\z`)
	keyFront  = regexp.MustCompile(`\A[ \t]*("(?:[^"\\]|\\.)+"|` + keyTold + `)[ \t]*:`)
	allValues = regexp.MustCompile(`\A[ \t]*(?:` + quotedTold + `|` + valueTold + `)[ \t]*(?:,[ \t]*(?:` + quotedTold + `|` + valueTold + `)[ \t]*)*\z`)
	oneValue  = regexp.MustCompile(`\A[ \t]*(` + quotedTold + `|` + valueTold + `)[ \t]*(?:,|\z)`)
	escapes   = regexp.MustCompile(`\\(.)`)
)

// answer is what Parse and Values answer.
type answer struct {
	l []Entry
	f []Fault
}

// String tells an answer, for what a test says.
func (x answer) String() string {
	var b strings.Builder
	for _, e := range x.l {
		fmt.Fprintf(&b, "%d %q %q; ", e.Line, e.Key, e.Values)
	}
	return b.String() + fmt.Sprint(x.f)
}

// parse is Parse, with what it answers as one.
func parse(text string, values bool) answer {
	l, f := Parse(text, values)
	return answer{l, f}
}

// same tells whether two answers are one; nil and empty lists are.
func same(x, y answer) bool { return x.String() == y.String() }

// bare answers what a part stands for.
func bare(part string) string {
	if strings.HasPrefix(part, `"`) {
		return escapes.ReplaceAllString(part[1:len(part)-1], "$1")
	}
	return part
}

// valuesTold is Values, told by expressions.
func valuesTold(s string) ([]string, api.Errno) {
	if !mayStand.MatchString(s) || !allValues.MatchString(s) {
		return nil, api.ErrForm
	}
	var l []string
	for s != "" {
		m := oneValue.FindStringSubmatch(s)
		l = append(l, bare(m[1]))
		s = s[len(m[0]):]
	}
	if len(l) > 16 {
		return nil, api.ErrFull
	}
	return l, api.OK
}

// entryTold is what a row says, told by expressions.
func entryTold(s string, values bool) (Entry, api.Errno) {
	if !mayStand.MatchString(s) {
		return Entry{}, api.ErrForm
	}
	if !values {
		m := wholeKey.FindStringSubmatch(s)
		if m == nil {
			return Entry{}, api.ErrForm
		}
		return Entry{Key: m[1]}, api.OK
	}
	m := keyFront.FindStringSubmatch(s)
	if m == nil {
		return Entry{}, api.ErrForm
	}
	l, e := valuesTold(s[len(m[0]):])
	return Entry{Key: bare(m[1]), Values: l}, e
}

// parseTold is Parse, told by expressions: lines first, from the last one to the
// first one, so that what goes on stands ready where it is gone on.
func parseTold(text string, values bool) (x answer) {
	if len(text) > 8192 {
		return answer{f: []Fault{{0, api.ErrLong}}}
	}
	all := lineEnd.Split(text, -1)
	more := ""
	var stray []int
	rows := map[int]string{}
	for i := len(all) - 1; i >= 0; i-- {
		if passed.MatchString(all[i]) {
			continue
		}
		if m := goesOn.FindStringSubmatch(all[i]); m != nil {
			more = " " + m[1] + more
			stray = append(stray, i)
			continue
		}
		rows[i] = all[i] + more
		more, stray = "", nil
	}
	keys := map[string]bool{}
	for i := range all {
		row, is := rows[i]
		entry, e := entryTold(row, values)
		entry.Line = i + 1
		key := strings.ToLower(entry.Key)
		switch {
		case slices.Contains(stray, i):
			x.f = append(x.f, Fault{i + 1, api.ErrForm})
		case !is:
		case e != api.OK:
			x.f = append(x.f, Fault{i + 1, e})
		case len(x.l) == 64:
			x.f = append(x.f, Fault{i + 1, api.ErrFull})
		case keys[key]:
			x.f = append(x.f, Fault{i + 1, api.ErrThere})
		default:
			keys[key] = true
			x.l = append(x.l, entry)
		}
	}
	return x
}

// quoteTold is Quote, told byte by byte.
func quoteTold(s string) string {
	plain := len(s) > 0
	in := `"`
	for i := 0; i < len(s); i++ {
		switch c := s[i]; {
		case c == ':' || c == ',' || c == '"',
			i == 0 && c == '#',
			(i == 0 || i == len(s)-1) && (c == ' ' || c == '\t'):
			plain = false
		}
		if s[i] == '"' || s[i] == '\\' {
			in += `\`
		}
		in += s[i : i+1]
	}
	if plain {
		return s
	}
	return in + `"`
}

// textTold is Text, told by joining.
func textTold(l []Entry) string {
	s := ""
	for _, e := range l {
		parts := []string{}
		for _, v := range e.Values {
			parts = append(parts, quoteTold(v))
		}
		s += quoteTold(e.Key)
		if len(parts) > 0 {
			s += ": " + strings.Join(parts, ", ")
		}
		s += "\n"
	}
	return s
}

// short goes through all texts of letters, of so many bytes at most.
func short(letters string, most int, each func(string)) {
	var longer func(s string)
	longer = func(s string) {
		each(s)
		if len(s) == most {
			return
		}
		for i := range len(letters) {
			longer(s + letters[i:i+1])
		}
	}
	longer("")
}

// check holds what Parse answers against what is told.
func check(t *testing.T, text string, values bool) {
	t.Helper()
	if got, want := parse(text, values), parseTold(text, values); !same(got, want) {
		t.Fatalf("Parse(%q, %v): %v, not %v", text, values, got, want)
	}
}

// checkValues holds what Values answers against what is told.
func checkValues(t *testing.T, s string) {
	t.Helper()
	got, e := Values(s)
	want, f := valuesTold(s)
	if !slices.Equal(got, want) || e != f {
		t.Fatalf("Values(%q): %q, %d, not %q, %d", s, got, e, want, f)
	}
}

// P13.1: the chapter's examples.
func TestExamples(t *testing.T) {
	for text, want := range map[string]answer{
		`a: b, "c, d"`:     {l: []Entry{{1, "a", []string{"b", "c, d"}}}},
		"a: b\n , c":       {l: []Entry{{1, "a", []string{"b", "c"}}}},
		"x\na: b\nA: c":    {[]Entry{{2, "a", []string{"b"}}}, []Fault{{1, api.ErrForm}, {3, api.ErrThere}}},
		"x\na: b\n\nA: c;": {[]Entry{{2, "a", []string{"b"}}}, []Fault{{1, api.ErrForm}, {4, api.ErrThere}}},
	} {
		if got := parse(text, true); !same(got, want) {
			t.Errorf("Parse(%q): %v, not %v", text, got, want)
		}
	}
}

// P13.1: lines end at bytes 0a and at the text's end, are counted from 1 on,
// passed over, and go on others.
func TestLines(t *testing.T) {
	one := func(line int, key string, values ...string) answer {
		return answer{l: []Entry{{line, key, values}}}
	}
	wrong := func(lines ...int) (x answer) {
		for _, n := range lines {
			x.f = append(x.f, Fault{n, api.ErrForm})
		}
		return x
	}
	for text, want := range map[string]answer{
		"":                        {},
		"\n":                      {},
		"\r":                      {},
		"\r\n\r\n\r":              {},
		" \t\n\t\r\n ":            {},
		"#":                       {},
		"# a: b":                  {},
		" \t# a: b\r\n#\x80\x00":  {},
		"#\r\r\n":                 {},
		"a:b":                     one(1, "a", "b"),
		"a:b\r":                   one(1, "a", "b"),
		"a:b\n":                   one(1, "a", "b"),
		"a:b\r\n":                 one(1, "a", "b"),
		"\n\r\n#x\n \na:b":        one(5, "a", "b"),
		"a:b\r\r\n":               wrong(1),
		"a:b\r\r":                 wrong(1),
		"\r\r\n":                  wrong(1),
		"a:\rb":                   wrong(1),
		"a:b\x00":                 wrong(1),
		"a:b\x7f":                 wrong(1),
		"a:b\x0b":                 wrong(1),
		"a:b\x80":                 wrong(1),
		"a:\xc3\xa4":              wrong(1),
		"a:b\n\x01":               {l: []Entry{{1, "a", []string{"b"}}}, f: []Fault{{2, api.ErrForm}}},
		" \x80":                   wrong(1),
		" a:b":                    wrong(1),
		"\ta:b":                   wrong(1),
		" a:b\n c:d":              wrong(1, 2),
		"\n#\n a:b\n\n #\n\tc\n ": wrong(3, 6),
		" a:b\nc:d\n ,e":          {l: []Entry{{2, "c", []string{"d", "e"}}}, f: []Fault{{1, api.ErrForm}}},
		"a\n :\n b\n\t,\n c":      one(1, "a", "b", "c"),
		"a\n b : c":               one(1, "a b", "c"),
		"a: b\n#x\n\n \t\n c\n":   one(1, "a", "b c"),
		"a: b\n #x\n c\n":         one(1, "a", "b c"),
		"a: b\r\n  c \t\r\n\td\r": one(1, "a", "b c d"),
		"a: b \t\n c":             one(1, "a", "b \t c"),
		"a: b\n c # d":            one(1, "a", "b c # d"),
		"a: \"b\n c\"":            one(1, "a", "b c"),
		"a: \"b \n  c  \n  d\"":   one(1, "a", "b  c d"),
		"a: \"b\n #x\n\n c\"":     one(1, "a", "b c"),
		"a: \"b\\\n c\"":          one(1, "a", "b c"),
		"a: b\n c\x01":            wrong(1),
		"\"a\n b\": c":            one(1, "a b", "c"),
		"a\n\n#\n b\n c":          wrong(1),
	} {
		if got := parse(text, true); !same(got, want) {
			t.Errorf("Parse(%q): %v, not %v", text, got, want)
		}
		check(t, text, true)
		check(t, text, false)
	}
}

// P13.1: keys, and values, are plain or quoted.
func TestEntries(t *testing.T) {
	for text, want := range map[string]Entry{
		`a:b`:                  {1, "a", []string{"b"}},
		`a : b`:                {1, "a", []string{"b"}},
		"a\t:\tb\t,\tc\t":      {1, "a", []string{"b", "c"}},
		`a b: c d , e f `:      {1, "a b", []string{"c d", "e f"}},
		`a,b: c:d`:             {1, "a,b", []string{"c:d"}},
		`a\b: \, \\,\`:         {1, `a\b`, []string{`\`, `\\`, `\`}},
		`"a": "b" , "c"`:       {1, "a", []string{"b", "c"}},
		`"a:b" : c`:            {1, "a:b", []string{"c"}},
		`"#": c`:               {1, "#", []string{"c"}},
		`a#: #, "#"`:           {1, "a#", []string{"#", "#"}},
		`" a ": " b "`:         {1, " a ", []string{" b "}},
		`" ": "",""`:           {1, " ", []string{"", ""}},
		`"\"": "\\\"\a\ \,"`:   {1, `"`, []string{`\"a ,`}},
		`"\\": "\\"`:           {1, `\`, []string{`\`}},
		"\"\\\t\": \"\\\t\t\"": {1, "\t", []string{"\t\t"}},
		`:fail: x`:             {},
		`a`:                    {},
		`a:`:                   {},
		`a: `:                  {},
		`:b`:                   {},
		` : b`:                 {},
		`"": b`:                {},
		`"a"`:                  {},
		`"a":`:                 {},
		`"a"b: c`:              {},
		`a"b": c`:              {},
		`a": c`:                {},
		`"a: c`:                {},
		`"a\": c`:              {},
		`"a"": c`:              {},
		`a:,`:                  {},
		`a:b,`:                 {},
		`a:,b`:                 {},
		`a:b,,c`:               {},
		`a:b, ,c`:              {},
		`a:b"`:                 {},
		`a:b"c"`:               {},
		`a:"b`:                 {},
		`a:"b\"`:               {},
		`a:"b" c`:              {},
		`a:"b""c"`:             {},
		`a:"b",`:               {},
		`a:"b\`:                {},
		"a:\"\\\x80\"":         {},
		"a:\"\\\x01\"":         {},
		"\"\x80\":a":           {},
	} {
		x := answer{l: []Entry{want}}
		if want.Line == 0 {
			x = answer{f: []Fault{{1, api.ErrForm}}}
		}
		if got := parse(text, true); !same(got, x) {
			t.Errorf("Parse(%q): %v, not %v", text, got, x)
		}
		check(t, text, true)
	}
}

// P13.1: in a text without values the whole is the key, and plain.
func TestWithoutValues(t *testing.T) {
	for text, want := range map[string]answer{
		"home.org":           {l: []Entry{{1, "home.org", nil}}},
		"a: b, c,":           {l: []Entry{{1, "a: b, c,", nil}}},
		":":                  {l: []Entry{{1, ":", nil}}},
		",":                  {l: []Entry{{1, ",", nil}}},
		"!a\\":               {l: []Entry{{1, "!a\\", nil}}},
		"a \t\r\n":           {l: []Entry{{1, "a", nil}}},
		"a \n  b \n c":       {l: []Entry{{1, "a  b c", nil}}},
		"a\nb\n c\nB  C\nA":  {l: []Entry{{1, "a", nil}, {2, "b c", nil}, {4, "B  C", nil}}, f: []Fault{{5, api.ErrThere}}},
		"\"a\"":              {f: []Fault{{1, api.ErrForm}}},
		"a\"":                {f: []Fault{{1, api.ErrForm}}},
		"a\n \"":             {f: []Fault{{1, api.ErrForm}}},
		"\"":                 {f: []Fault{{1, api.ErrForm}}},
		" a\nb\x80\nc\n\x1f": {l: []Entry{{3, "c", nil}}, f: []Fault{{1, api.ErrForm}, {2, api.ErrForm}, {4, api.ErrForm}}},
		"1,2,3,4,5,6,7,8,9,10,11,12,13,14,15,16,17,18": {l: []Entry{{1, "1,2,3,4,5,6,7,8,9,10,11,12,13,14,15,16,17,18", nil}}},
	} {
		if got := parse(text, false); !same(got, want) {
			t.Errorf("Parse(%q): %v, not %v", text, got, want)
		}
		check(t, text, false)
	}
}

// counted answers so many texts in a row, a comma between.
func counted(many int) string {
	l := make([]string, many)
	for i := range l {
		l[i] = fmt.Sprint(i)
	}
	return strings.Join(l, ",")
}

// P13.1: of several errors ErrForm is told first, then ErrFull, then ErrThere;
// what has a fault is no entry that another one could stand behind.
func TestErrors(t *testing.T) {
	for _, c := range []struct {
		text string
		want []Fault
		many int
	}{
		{"a:" + counted(16), nil, 1},
		{"a:" + counted(17), []Fault{{1, api.ErrFull}}, 0},
		{"a:" + counted(17) + ",", []Fault{{1, api.ErrForm}}, 0},
		{"a:" + counted(17) + ",\"", []Fault{{1, api.ErrForm}}, 0},
		{"a:" + counted(16) + "\n ,b\nA:c", []Fault{{1, api.ErrFull}}, 1},
		{"a:b\nA:" + counted(17), []Fault{{2, api.ErrFull}}, 1},
		{"a:b\nA:" + counted(16), []Fault{{2, api.ErrThere}}, 1},
		{"a:b\n\"A\":,", []Fault{{2, api.ErrForm}}, 1},
		{"a:b\n\"\\A\" :c\n a:d", []Fault{{2, api.ErrThere}}, 1},
		{"a:b,\nA:c\na:d", []Fault{{1, api.ErrForm}, {3, api.ErrThere}}, 1},
		{"[a:b\n{A:c", nil, 2},
		{"@:b\n`:c", nil, 2},
		{"AZ_:b\nAz_:c\nAz?:d", []Fault{{2, api.ErrThere}}, 2},
		{"a b:c\na  b:d\n\"A B\":e\n\"a b \":f", []Fault{{3, api.ErrThere}}, 3},
	} {
		got := parse(c.text, true)
		if !slices.Equal(got.f, c.want) || len(got.l) != c.many {
			t.Errorf("Parse(%q): %v, not %v and %d", c.text, got, c.want, c.many)
		}
		check(t, c.text, true)
	}
}

// P13.1: there are 64 entries at most, whatever has a fault counts for none, and
// ErrThere stands behind ErrFull.
func TestTable(t *testing.T) {
	for _, values := range []bool{true, false} {
		tail := map[bool]string{true: ":v\n", false: "\n"}[values]
		text := ""
		for i := range 64 {
			text += "\"\n" + fmt.Sprintf("k%d", i) + tail
		}
		got := parse(text, values)
		if len(got.l) != 64 || len(got.f) != 64 {
			t.Fatal(got)
		}
		more := parse(text+"z"+tail+"k1"+tail+"\"z\n"+"\n", values)
		want := append(got.f, Fault{129, api.ErrFull}, Fault{130, api.ErrFull}, Fault{131, api.ErrForm})
		if !same(more, answer{got.l, want}) {
			t.Error(more, want)
		}
		check(t, text+"z"+tail+"k1"+tail+"\"z\n", values)
		again := strings.Replace(text, "k63", "K62", 1)
		if got := parse(again+"z"+tail+"y"+tail, values); len(got.l) != 64 || got.f[64] != (Fault{128, api.ErrThere}) || got.f[65] != (Fault{130, api.ErrFull}) {
			t.Error(got)
		}
	}
}

// P13.1: a text has 8192 bytes at most; of one that is longer nothing else is told.
func TestLong(t *testing.T) {
	for _, values := range []bool{true, false} {
		text := "a:b\n\"\n#" + strings.Repeat("x", 8192-8) + "\n"
		if got := parse(text, values); len(text) != 8192 || len(got.l) != 1 || len(got.f) != 1 {
			t.Error(len(text), got)
		}
		for _, more := range []string{"\n", "x", "\r", strings.Repeat("y:z\n", 1<<18)} {
			if got := parse(text+more, values); !same(got, answer{f: []Fault{{0, api.ErrLong}}}) {
				t.Error(len(text+more), got)
			}
		}
		key := strings.Repeat("k", 8000)
		if got := parse(key+":v", values); len(got.l) != 1 || !strings.HasPrefix(got.l[0].Key, key) || got.f != nil {
			t.Error(len(got.l), got.f)
		}
	}
}

// P13.1: Values answers what stands behind a colon.
func TestValues(t *testing.T) {
	for _, c := range []struct {
		s    string
		want []string
		e    api.Errno
	}{
		{"a", []string{"a"}, api.OK},
		{" a\t,b ", []string{"a", "b"}, api.OK},
		{`"a, b", c:d,""`, []string{"a, b", "c:d", ""}, api.OK},
		{`"\\\"\x"`, []string{`\"x`}, api.OK},
		{`# a`, []string{`# a`}, api.OK},
		{`:a:`, []string{`:a:`}, api.OK},
		{"", nil, api.ErrForm},
		{" \t", nil, api.ErrForm},
		{",", nil, api.ErrForm},
		{"a,", nil, api.ErrForm},
		{"a,,b", nil, api.ErrForm},
		{"a\"b", nil, api.ErrForm},
		{"\"a", nil, api.ErrForm},
		{"\"a\"b", nil, api.ErrForm},
		{"a\n", nil, api.ErrForm},
		{"a\n b", nil, api.ErrForm},
		{"a\r", nil, api.ErrForm},
		{"a\x80", nil, api.ErrForm},
		{"\"\x7f\"", nil, api.ErrForm},
		{counted(17), nil, api.ErrFull},
		{counted(17) + ",", nil, api.ErrForm},
		{counted(17) + ",\x80", nil, api.ErrForm},
	} {
		got, e := Values(c.s)
		if !slices.Equal(got, c.want) || e != c.e {
			t.Errorf("Values(%q): %q, %d, not %q, %d", c.s, got, e, c.want, c.e)
		}
		checkValues(t, c.s)
	}
	if got, e := Values(counted(16)); len(got) != 16 || got[15] != "15" || e != api.OK {
		t.Error(got, e)
	}
}

// P13.1: short texts, whatever they have, are read as is told.
func TestShort(t *testing.T) {
	short("aA:,\"\\ \n", 6, func(s string) { check(t, s, true) })
	short("aA:,\" \t#\n\r\x80", 5, func(s string) {
		check(t, s, true)
		check(t, s, false)
	})
	short("a,\"\\ \n", 6, func(s string) { checkValues(t, s) })
	short("a:,\"\\ ", 5, func(s string) { check(t, "b:c\nk: \""+s+"\nB : "+s, true) })
}

// P13.1: each byte at each place of a text.
func TestBytes(t *testing.T) {
	text := "#c\r\nk : \"q\\q\" , v w\r\n \t x\n\"K2\":\"\"\n \n \t#\n z,y\n"
	for i := range len(text) + 1 {
		for b := range 256 {
			c := string([]byte{byte(b)})
			check(t, text[:i]+c+text[i:], true)
			check(t, text[:i]+c+text[i:], false)
			if i < len(text) {
				check(t, text[:i]+c+text[i+1:], true)
			}
			checkValues(t, text[min(i, 8):i]+c)
		}
	}
}

// P13.1: texts that are put together of pieces are read as is told.
func TestPieces(t *testing.T) {
	r := rand.New(rand.NewPCG(13, 1))
	pieces := []string{"a", "b", "K", "k", ":", ": ", ",", ", ", "\"", "\"x\"", "\"\\\"\"", "\"\"", "\\", " ", "\t", "#", "\n", "\n", "\n ", "\r\n", "\r", "\n#x\n", "\n\n", "\n \n", "\nk: v", "\nz:y,x\n", "\x80", "\x7f"}
	for range 50000 {
		text := ""
		for range r.IntN(16) {
			text += pieces[r.IntN(len(pieces))]
		}
		check(t, text, true)
		check(t, text, false)
		checkValues(t, text)
	}
}

// P13.2: what is plain stands as it is, all else in quotes.
func TestQuote(t *testing.T) {
	for s, want := range map[string]string{
		"":          `""`,
		"a":         "a",
		"a b":       "a b",
		"a\tb":      "a\tb",
		" a":        `" a"`,
		"a ":        `"a "`,
		"\ta":       "\"\ta\"",
		"a\t":       "\"a\t\"",
		" ":         `" "`,
		"a:b":       `"a:b"`,
		"a,b":       `"a,b"`,
		":":         `":"`,
		",":         `","`,
		`"`:         `"\""`,
		`a"b`:       `"a\"b"`,
		`a\b`:       `a\b`,
		`\`:         `\`,
		`a\,b`:      `"a\\,b"`,
		`\"`:        `"\\\""`,
		`\\ `:       `"\\\\ "`,
		"#a":        `"#a"`,
		"#":         `"#"`,
		"a#":        "a#",
		`#"\`:       `"#\"\\"`,
		"a\nb":      "a\nb",
		"\n":        "\n",
		"\x80":      "\x80",
		"\x00#":     "\x00#",
		"\r":        "\r",
		"a\n":       "a\n",
		"\x7f,\x80": "\"\x7f,\x80\"",
		"ä":         "ä",
		"ä ":        `"ä "`,
	} {
		if got := Quote(s); got != want || quoteTold(s) != want {
			t.Errorf("Quote(%q): %q, not %q (%q)", s, got, want, quoteTold(s))
		}
	}
	short("a:,\"\\ \t#\n\x80", 5, func(s string) {
		if got, want := Quote(s), quoteTold(s); got != want {
			t.Fatalf("Quote(%q): %q, not %q", s, got, want)
		}
	})
	for b := range 256 {
		c := string([]byte{byte(b)})
		for _, s := range []string{c, c + "a", "a" + c, "a" + c + "a", c + c} {
			if got, want := Quote(s), quoteTold(s); got != want {
				t.Errorf("Quote(%q): %q, not %q", s, got, want)
			}
		}
	}
}

// P13.2: each entry is a line, whatever it has.
func TestText(t *testing.T) {
	for _, c := range []struct {
		l    []Entry
		want string
	}{
		{nil, ""},
		{[]Entry{}, ""},
		{[]Entry{{}}, "\"\"\n"},
		{[]Entry{{9, "a", nil}}, "a\n"},
		{[]Entry{{-1, "a", []string{}}}, "a\n"},
		{[]Entry{{0, "a", []string{""}}}, "a: \"\"\n"},
		{[]Entry{{5, "a", []string{"b"}}, {5, "a", []string{"b", " c", "d,"}}}, "a: b\na: b, \" c\", \"d,\"\n"},
		{[]Entry{{0, "a:b", []string{"c:d"}}, {0, "#", nil}}, "\"a:b\": \"c:d\"\n\"#\"\n"},
		{[]Entry{{0, "a\n", []string{"\x80"}}}, "a\n: \x80\n"},
	} {
		if got := Text(c.l); got != c.want || textTold(c.l) != c.want {
			t.Errorf("Text(%v): %q, not %q", c.l, got, c.want)
		}
	}
}

// entries answers so many entries with unlike keys, put together by chance.
func entries(r *rand.Rand, many int) (l []Entry) {
	text := func(least, most int) string {
		b := make([]byte, least+r.IntN(most))
		for i := range b {
			b[i] = " ~:,\"\\#aA"[r.IntN(9)]
			if r.IntN(4) == 0 {
				b[i] = byte(' ' + r.IntN('~'-' '+1))
			}
		}
		return string(b)
	}
	seen := map[string]bool{}
	for len(l) < many {
		e := Entry{Line: len(l) + 1, Key: text(1, 6)}
		if key := strings.ToLower(e.Key); seen[key] {
			continue
		} else {
			seen[key] = true
		}
		for range 1 + r.IntN(16) {
			e.Values = append(e.Values, text(0, 4))
		}
		l = append(l, e)
	}
	return l
}

// P13.4: Text of entries is read as these, each on a line of its own.
func TestThereAndBack(t *testing.T) {
	r := rand.New(rand.NewPCG(13, 4))
	for range 400 {
		l := entries(r, 1+r.IntN(64))
		text := Text(l)
		if text != textTold(l) {
			t.Fatalf("Text(%v): %q, not %q", l, text, textTold(l))
		}
		if len(text) > 8192 {
			continue
		}
		if got := parse(text, true); !same(got, answer{l: l}) {
			t.Fatalf("%q: %v, not %v", text, got, answer{l: l})
		}
		k := r.IntN(len(l))
		if got, e := Values(text[strings.Index(text, Text(l[k:]))+len(Quote(l[k].Key))+1 : len(text)-len(Text(l[k+1:]))-1]); !slices.Equal(got, l[k].Values) || e != api.OK {
			t.Fatalf("%q: %q, %d, not %q", text, got, e, l[k].Values)
		}
	}
	short(" ~:,\"\\#a", 4, func(s string) {
		l := []Entry{{1, "k" + s, []string{s, s, "x"}}, {2, s + ".", []string{s}}}
		if got := parse(Text(l), true); !same(got, answer{l: l}) {
			t.Fatalf("%q: %v", s, got)
		}
	})
}

// P13.3: what is wrong in one entry changes no other one, and lines that are
// passed over change nothing but numbers.
func TestEachByItself(t *testing.T) {
	r := rand.New(rand.NewPCG(13, 3))
	wrong := []string{"x\n", "\"\n", "a:\"b\n", "a:b,\n", ":\n", "x\n y\n", "x\n#:\n \"\n", "a:" + counted(17) + "\n", "a:\x80\n", "z\r\r\n"}
	over := []string{"\n", "#\n", " \n", "\t#a:b\n", "\r\n", "#\x80\r\r\n", " \t\r\n"}
	for range 5000 {
		l := entries(r, 1+r.IntN(6))
		text, line := "", 1
		var want answer
		add := func(pieces []string, fault bool) {
			for range r.IntN(3) {
				piece := pieces[r.IntN(len(pieces))]
				if fault {
					e := api.ErrForm
					if strings.Contains(piece, ",16") {
						e = api.ErrFull
					}
					want.f = append(want.f, Fault{line, e})
				}
				text += piece
				line += strings.Count(piece, "\n")
			}
		}
		add(over, false)
		if r.IntN(2) == 0 {
			add([]string{" a:b\n", "\t,\n"}, true)
		}
		for _, e := range l {
			add(wrong, true)
			add(over, false)
			e.Line = line
			want.l = append(want.l, e)
			text += Text([]Entry{e})
			line++
			add(over, false)
		}
		add(wrong, true)
		if len(text) > 8192 {
			continue
		}
		if got := parse(text, true); !same(got, want) {
			t.Fatalf("%q: %v, not %v", text, got, want)
		}
	}
}

// R3: what is answered is new memory, and what is handed in is only read.
func TestNotKept(t *testing.T) {
	text := "a:b,c\nd:e\nx\n"
	l, f := Parse(text, true)
	m, g := Parse(text, true)
	l[0].Values[0], l[1].Key, f[0].Line = "z", "z", 9
	_ = append(l[0].Values[:1], "y", "y")
	if !same(answer{m, g}, parse(text, true)) || !same(answer{m, g}, parseTold(text, true)) || l[1].Values[0] != "e" {
		t.Error(m, g, l)
	}
	v, _ := Values("a,b")
	w, _ := Values("a,b")
	v[0] = "z"
	if w[0] != "a" {
		t.Error(w)
	}
	in := []Entry{{3, "a,", []string{" b", "c"}}}
	if Text(in) != Text(in) || in[0].Line != 3 || in[0].Key != "a," || !slices.Equal(in[0].Values, []string{" b", "c"}) {
		t.Error(in)
	}
}

// R1: whatever is handed in has an answer, in time that grows with it.
func TestFarTooLong(t *testing.T) {
	for _, c := range []struct {
		piece, end string
		e          api.Errno
	}{
		{"a,", "z", api.ErrFull},
		{"\"\",", "z", api.ErrFull},
		{"\"a,b\" ,", "z", api.ErrFull},
		{"a,", "", api.ErrForm},
		{",", "", api.ErrForm},
		{"\"\\\"", "", api.ErrForm},
		{" ", "", api.ErrForm},
		{"\n ", "z", api.ErrForm},
		{"\\", "", api.OK},
		{" ", "z", api.OK},
	} {
		s := strings.Repeat(c.piece, 1<<20)
		if _, e := Values(s + c.end); e != c.e {
			t.Errorf("%q: %d, not %d", c.piece, e, c.e)
		}
		if got := parse(s, true); !same(got, answer{f: []Fault{{0, api.ErrLong}}}) {
			t.Errorf("%q: %v", c.piece, got.f)
		}
		if got := Quote(s); len(got) < len(s) {
			t.Errorf("%q: %d", c.piece, len(got))
		}
	}
	if got := parse("a:b"+strings.Repeat("\n c", (8192-3)/3), true); len(got.l) != 1 || len(got.l[0].Values[0]) != 1+2*((8192-3)/3) {
		t.Error(got)
	}
}
