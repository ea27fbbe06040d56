package head

import (
	"math"
	"regexp"
	"slices"
	"strconv"
	"strings"
	"testing"

	"postrider/api"
)

// one answers the text of that one byte.
func one(c int) string { return string([]byte{byte(c)}) }

// every calls do with each text of up to that many pieces.
func every(many int, do func(string), pieces ...string) {
	do("")
	if many == 0 {
		return
	}
	for _, piece := range pieces {
		every(many-1, func(s string) { do(piece + s) }, pieces...)
	}
}

// random answers a text of the pieces, another one for each seed.
func random(seed uint64, many int, pieces ...string) string {
	s := ""
	for range many {
		seed = seed*6364136223846793005 + 1442695040888963407
		s += pieces[(seed>>33)%uint64(len(pieces))]
	}
	return s
}

// long answers a text of so many letters.
func long(many int) string { return strings.Repeat("x", many) }

// crlf answers the lines, each ended.
func crlf(lines ...string) string {
	if len(lines) == 0 {
		return ""
	}
	return strings.Join(lines, "\r\n") + "\r\n"
}

// lines answers a raw text's lines, without their ends.
func lines(raw string) []string {
	return strings.Split(strings.TrimSuffix(raw, "\r\n"), "\r\n")
}

// same tells whether two messages are the same; nil fields are none.
func same(m, n Message) bool {
	return slices.Equal(m.Fields, n.Fields) && m.Body == n.Body && m.Early == n.Early
}

// none tells whether a message is the zero one.
func none(m Message) bool { return same(m, Message{}) }

// wide answers a text with a rune for each byte, as a form takes runes, not bytes.
func wide(s string) string {
	runes := make([]rune, len(s))
	for i := range len(s) {
		runes[i] = rune(s[i])
	}
	return string(runes)
}

// narrow answers the text again that wide made runes of.
func narrow(s string) string {
	var b []byte
	for _, r := range s {
		b = append(b, byte(r))
	}
	return string(b)
}

const fieldWords = `([!-9;-~]+)[ \t]*:([^\r\n]*\r\n(?:[ \t][^\r\n]*\r\n)*)`

var (
	textForm    = regexp.MustCompile(`^(?:[\t -~\x{80}-\x{ff}]*\r\n)*$`)
	messageForm = regexp.MustCompile(`^((?:` + fieldWords + `)*)(\r\n(?s:.*))?$`)
	fieldForm   = regexp.MustCompile(fieldWords)
	valueForm   = regexp.MustCompile(`^[\t -~\x{80}-\x{ff}]*$`)
	nameForm    = regexp.MustCompile(`^[!-9;-~]+$`)
)

// parseTold is what Parse must answer, told by the words' forms.
func parseTold(s string) (Message, api.Errno) {
	if len(s) > 8192 {
		return Message{}, api.ErrLong
	}
	found := messageForm.FindStringSubmatch(wide(s))
	if found == nil || !textForm.MatchString(wide(s)) {
		return Message{}, api.ErrForm
	}
	var m Message
	for _, field := range fieldForm.FindAllStringSubmatch(found[1], -1) {
		value := strings.Trim(strings.ReplaceAll(field[2], "\r\n", ""), " \t")
		m.Fields = append(m.Fields, Field{narrow(field[1]), narrow(value), narrow(field[0])})
	}
	m.Body = narrow(strings.TrimPrefix(found[4], "\r\n"))
	m.Early = found[4] == ""
	return m, api.OK
}

// holdParse holds what Parse answers against what is told.
func holdParse(t *testing.T, s string) {
	t.Helper()
	m, e := Parse(s)
	want, wrong := parseTold(s)
	if !same(m, want) || e != wrong {
		t.Errorf("Parse(%q): %+v, %d, not %+v, %d", s, m, e, want, wrong)
	}
	if e == api.OK && (m.Text() != s || !m.May()) {
		t.Errorf("Parse(%q): text %q, may %t", s, m.Text(), m.May())
	}
}

// mustParse answers the message of a text that is one.
func mustParse(t *testing.T, s string) Message {
	t.Helper()
	m, e := Parse(s)
	if e != api.OK {
		t.Fatalf("Parse(%q): %d", s, e)
	}
	return m
}

// P7.1: the message, its fields' names, values, raw texts, and its body.
func TestParse(t *testing.T) {
	for s, want := range map[string]Message{
		"":                                     {Early: true},
		"\r\n":                                 {},
		crlf("To: a", "b:  c,", " d", "", "x"): {Fields: []Field{{"To", "a", "To: a\r\n"}, {"b", "c, d", "b:  c,\r\n d\r\n"}}, Body: "x\r\n"},
		crlf("a:b"):                            {Fields: []Field{{"a", "b", "a:b\r\n"}}, Early: true},
		crlf("a:b", ""):                        {Fields: []Field{{"a", "b", "a:b\r\n"}}},
		crlf("a:b", "", ""):                    {Fields: []Field{{"a", "b", "a:b\r\n"}}, Body: "\r\n"},
		crlf("", "a:b"):                        {Body: "a:b\r\n"},
		crlf("", "", "a", " b:"):               {Body: "\r\na\r\n b:\r\n"},
		// Behind the first empty line all is body, whatever it looks like.
		crlf("a:b", "", "c:d", "", " e", "nothing"): {Fields: []Field{{"a", "b", "a:b\r\n"}}, Body: "c:d\r\n\r\n e\r\nnothing\r\n"},
		// White space ahead of the colon; none, and much of it, behind.
		crlf("a \t :b"):            {Fields: []Field{{"a", "b", "a \t :b\r\n"}}, Early: true},
		crlf("a:"):                 {Fields: []Field{{"a", "", "a:\r\n"}}, Early: true},
		crlf("a: \t "):             {Fields: []Field{{"a", "", "a: \t \r\n"}}, Early: true},
		crlf("a:\t b \tc\t "):      {Fields: []Field{{"a", "b \tc", "a:\t b \tc\t \r\n"}}, Early: true},
		crlf("a::", "b: c: d"):     {Fields: []Field{{"a", ":", "a::\r\n"}, {"b", "c: d", "b: c: d\r\n"}}, Early: true},
		crlf("Resent-To: x", "A:"): {Fields: []Field{{"Resent-To", "x", "Resent-To: x\r\n"}, {"A", "", "A:\r\n"}}, Early: true},
		// Lines that go on: with a blank, a tab, nothing but white space, and a name and a colon.
		crlf("a: b", "\tc", "  d"):       {Fields: []Field{{"a", "b\tc  d", "a: b\r\n\tc\r\n  d\r\n"}}, Early: true},
		crlf("a:", " b"):                 {Fields: []Field{{"a", "b", "a:\r\n b\r\n"}}, Early: true},
		crlf("a:", " ", "\t", " b", " "): {Fields: []Field{{"a", "b", "a:\r\n \r\n\t\r\n b\r\n \r\n"}}, Early: true},
		crlf("a:", " ", "", "x"):         {Fields: []Field{{"a", "", "a:\r\n \r\n"}}, Body: "x\r\n"},
		crlf("a: b", " c: d", "e: f"):    {Fields: []Field{{"a", "b c: d", "a: b\r\n c: d\r\n"}, {"e", "f", "e: f\r\n"}}, Early: true},
		crlf("a: b ", " c"):              {Fields: []Field{{"a", "b  c", "a: b \r\n c\r\n"}}, Early: true},
		// The same name more than once, and names of signs.
		crlf("a:1", "A:2", "a:3"):      {Fields: []Field{{"a", "1", "a:1\r\n"}, {"A", "2", "A:2\r\n"}, {"a", "3", "a:3\r\n"}}, Early: true},
		crlf("!~;\"(),.<>@[]\\9-_: x"): {Fields: []Field{{"!~;\"(),.<>@[]\\9-_", "x", "!~;\"(),.<>@[]\\9-_: x\r\n"}}, Early: true},
		// Bytes 80 to ff, whether they are runes or not, and what blanks other alphabets have.
		crlf("a: \xff\x80é", "", "\xc3"): {Fields: []Field{{"a", "\xff\x80é", "a: \xff\x80é\r\n"}}, Body: "\xc3\r\n"},
		crlf("a: \u00a0b\u2003"):         {Fields: []Field{{"a", "\u00a0b\u2003", "a: \u00a0b\u2003\r\n"}}, Early: true},
		crlf("a: " + long(2000)):         {Fields: []Field{{"a", long(2000), "a: " + long(2000) + "\r\n"}}, Early: true},
	} {
		m, e := Parse(s)
		if e != api.OK || !same(m, want) || m.Text() != s || !m.May() {
			t.Errorf("Parse(%q): %+v, %d, not %+v", s, m, e, want)
		}
	}
}

// P7.1: what is no message's text, and what has a line that is no field's.
func TestParseForm(t *testing.T) {
	for _, s := range []string{
		// Lines that are not ended so, and ends that stand elsewhere.
		"a", "a:b", "a:b\r", "a:b\n", "a:b\n\r", "\r", "\n", "\n\r", " ", "\r\n\r", "\r\n\n", "\r\nx", "\r\r\n", "\n\r\n", "a:b\r\n\r\nx", "a:b\r\nc:d", "a:b\r\n c", "a:b\r\r\n", "a:b\n\r\n", "a:b\rc\r\n", "a:b\nc:d\r\n", "a:b\r\n\r\nx\ny\r\n", "a:b\r\n\r\nx\ry\r\n", "a:b\r\n\r\n\r", "\r\n\r\n\n", "a\r:b\r\n", "a:b\r\n\nc\r\n",
		// Other bytes, in the header or the body.
		crlf("a:\x00"), crlf("a:\x7f"), crlf("a:\x0b"), crlf("a:\x1f"), crlf("a:b", "", "\x00"), crlf("", "\x08"), crlf("", "x", "y\x7f", "z"), crlf("a:b", " \x0c"),
		// Lines of the header that are no field's.
		crlf("a"), crlf("a b"), crlf(":"), crlf(":b"), crlf("a b:c"), crlf("a\tb :c"), crlf("a:b", "c"), crlf("a:b", "c", "d:e"), crlf("a:b", ":"), crlf("é:b"), crlf("\xff:b"), crlf("a\x80:b"), crlf("a", "", "x"), crlf("a:b", "c d: e", "", "x"), crlf("From ann@home.org Thu", "a:b"),
		// The first one begins with white space.
		crlf(" "), crlf("\t"), crlf(" a:b"), crlf("\ta:b"), crlf(" ", "a:b"), crlf(" :"), crlf(" a", "", "x"), crlf("  a:b", "c:d"), crlf(" \t", "", ""),
		// No colon stands on the name's own line.
		crlf("a", " :b"), crlf("a", " b:c"), crlf("a ", "\t:"), crlf("x:y", "a", " :b"),
	} {
		if m, e := Parse(s); e != api.ErrForm || !none(m) {
			t.Errorf("Parse(%q): %+v, %d", s, m, e)
		}
	}
}

// P7.1: at most 8192 bytes, asked ahead of any form.
func TestParseLong(t *testing.T) {
	for _, s := range []string{"a:" + long(8188) + "\r\n", strings.Repeat("\r\n", 4096), crlf("a:b", "", long(8183)), strings.Repeat("ab:\tc\r\n", 1170) + "\r\n", "a:" + strings.Repeat("\r\n ", 2729) + "x\r\n"} {
		m, e := Parse(s)
		if len(s) > 8192 || e != api.OK || m.Text() != s || !m.May() {
			t.Errorf("%d bytes: %d", len(s), e)
		}
	}
	for _, s := range []string{"a:" + long(8189) + "\r\n", strings.Repeat("\r\n", 4097), crlf("a:b", "", long(8184)), long(8193), "\x00" + long(8192), " " + long(8192), strings.Repeat("\n", 8193), long(1 << 20), crlf("a", long(9000))} {
		if m, e := Parse(s); e != api.ErrLong || !none(m) {
			t.Errorf("%d bytes: %d", len(s), e)
		}
	}
	for many := 8180; many < 8200; many++ {
		holdParse(t, "a:"+long(many)+"\r\n")
		holdParse(t, crlf("a:b", "", long(many)))
		holdParse(t, crlf(" "+long(many)))
		holdParse(t, long(many))
	}
}

// P7.1, P7.4: each byte at each place, and each short text, as the words' forms have it.
func TestParseForms(t *testing.T) {
	hold := func(s string) { holdParse(t, s) }
	for c := range 256 {
		for _, x := range [][2]string{{"", ""}, {"", ":b\r\n"}, {"", "a:b\r\n"}, {"a", ":b\r\n"}, {"a", "b\r\n"}, {"a ", ":b\r\n"}, {"a:", "\r\n"}, {"a: ", " b\r\n"}, {"a:b\r\n", "c:d\r\n"}, {"a:b\r\n", "\r\n"}, {"a:b\r\n ", "\r\n"}, {"a:b\r", "\r\n"}, {"a:b\r", ""}, {"a:b", "\n"}, {"a:b\r\n", ""}, {"a:b\r\n\r\n", "\r\n"}, {"\r\n", "x\r\n"}, {"\r\nx\r\n", "\n"}} {
			hold(x[0] + one(c) + x[1])
		}
	}
	every(6, hold, "a", ":", " ", "\r\n", "\r", "\n")
	every(8, func(s string) { hold(s + "\r\n") }, "a", ":", " ", "\r\n")
	every(6, hold, "a:\r\n", "A :b\r\n", " c\r\n", "\t\r\n", "\r\n", "x\r\n")
	for seed := range uint64(60000) {
		hold(random(seed, int(seed%12), "To: a\r\n", "b:  c,\r\n", " d\r\n", "\tto: e", "\r\n", "\r\n", "Subject", ":", " ", "é", "\xff", long(80)))
	}
}

// P7.1: whether a message is just what its text is read as.
func TestMay(t *testing.T) {
	field := Field{"a", "b", "a: b\r\n"}
	for _, x := range []struct {
		m    Message
		text string
		may  bool
	}{
		{Message{}, "\r\n", true}, {Message{Early: true}, "", true}, {Message{Fields: []Field{}, Early: true}, "", true}, {Message{Body: "x\r\n"}, "\r\nx\r\n", true}, {Message{Fields: []Field{field, field}, Body: "\r\n"}, "a: b\r\na: b\r\n\r\n\r\n", true},
		// Its text leaves out the body of one that ends early.
		{Message{Body: "x\r\n", Early: true}, "", false}, {Message{Fields: []Field{field}, Body: "x", Early: true}, "a: b\r\n", false},
		// Bodies that are no lines.
		{Message{Body: "x"}, "\r\nx", false}, {Message{Body: "x\n"}, "\r\nx\n", false}, {Message{Body: "\x00\r\n"}, "\r\n\x00\r\n", false}, {Message{Fields: []Field{field}, Body: "\r"}, "a: b\r\n\r\n\r", false},
		// Fields that are read as another one, as more or as fewer, or as none.
		{Message{Fields: []Field{{"a", "b", "A: b\r\n"}}}, "A: b\r\n\r\n", false}, {Message{Fields: []Field{{"a", "b", "a: c\r\n"}}}, "a: c\r\n\r\n", false}, {Message{Fields: []Field{{"a", " b", "a: b\r\n"}}}, "a: b\r\n\r\n", false}, {Message{Fields: []Field{{"a ", "b", "a : b\r\n"}}}, "a : b\r\n\r\n", false},
		{Message{Fields: []Field{{"a", "b", "a: b"}}}, "a: b\r\n", false}, {Message{Fields: []Field{{"a", "b", "a: b"}}, Early: true}, "a: b", false}, {Message{Fields: []Field{{}}}, "\r\n", false}, {Message{Fields: []Field{{}}, Early: true}, "", false}, {Message{Fields: []Field{field, {}}}, "a: b\r\n\r\n", false},
		{Message{Fields: []Field{{"a", "b", ""}}}, "\r\n", false}, {Message{Fields: []Field{{"a", "b c: d", "a: b\r\nc: d\r\n"}}}, "a: b\r\nc: d\r\n\r\n", false}, {Message{Fields: []Field{field, {"c", "d", " c: d\r\n"}}}, "a: b\r\n c: d\r\n\r\n", false}, {Message{Fields: []Field{{"c", "d", " c: d\r\n"}}}, " c: d\r\n\r\n", false},
		{Message{Fields: []Field{{"", "b", ": b\r\n"}}}, ": b\r\n\r\n", false}, {Message{Fields: []Field{{"a", "b", "a: b\n"}}}, "a: b\n\r\n", false}, {Message{Fields: []Field{{"a", "b\x00", "a: b\x00\r\n"}}}, "a: b\x00\r\n\r\n", false},
		// An empty line within the raw text.
		{Message{Fields: []Field{{"a", "b", "a: b\r\n\r\n"}}}, "a: b\r\n\r\n\r\n", false}, {Message{Fields: []Field{{"a", "b", "a: b\r\n\r\n"}}, Early: true}, "a: b\r\n\r\n", false}, {Message{Fields: []Field{field, {"c", "d", "\r\nc: d\r\n"}}}, "a: b\r\n\r\nc: d\r\n\r\n", false},
		// Too long, and just not.
		{Message{Body: long(8188) + "\r\n"}, "\r\n" + long(8188) + "\r\n", true}, {Message{Body: long(8189) + "\r\n"}, "\r\n" + long(8189) + "\r\n", false}, {Message{Fields: slices.Repeat([]Field{field}, 1365), Early: true}, strings.Repeat("a: b\r\n", 1365), true}, {Message{Fields: slices.Repeat([]Field{field}, 1366), Early: true}, strings.Repeat("a: b\r\n", 1366), false},
	} {
		if got := x.m.Text(); got != x.text {
			t.Errorf("%+v: text %q, not %q", x.m, got, x.text)
		}
		if x.m.May() != x.may {
			t.Errorf("%+v: may is not %t", x.m, x.may)
		}
	}
}

// P7.1: one that is read may be; with any part of it another one, it may not.
func TestMayOther(t *testing.T) {
	read := func() Message { return mustParse(t, crlf("To: a", "b:  c,", " d", "", "x")) }
	for i, change := range []func(m *Message){
		func(m *Message) { m.Fields[0].Name = "TO" }, func(m *Message) { m.Fields[0].Value = "" }, func(m *Message) { m.Fields[1].Value = "c,\r\n d" }, func(m *Message) { m.Fields[1].Raw = "b:  c, d\r\n" + " " },
		func(m *Message) { m.Fields[1].Raw += "\r\n" }, func(m *Message) { m.Fields[0], m.Fields[1].Name = m.Fields[1], "e" }, func(m *Message) { m.Early = true }, func(m *Message) { m.Body += " " }, func(m *Message) { m.Fields[1].Raw = m.Fields[0].Raw },
	} {
		m := read()
		if !m.May() {
			t.Fatal("read, and may not be")
		}
		if change(&m); m.May() {
			t.Errorf("change %d: %+v may be", i, m)
		}
	}
}

// P7.2: all values of a name, in any case, in order, and how many there are.
func TestFindCount(t *testing.T) {
	m := mustParse(t, crlf("Received: one;", "\ttwo", "TO : a@b,", " c@d", "Subject:", "to: e@f", "T: g", "[x]: h", "to: e@f", "", "to: body"))
	for name, want := range map[string][]string{
		"To": {"a@b, c@d", "e@f", "e@f"}, "to": {"a@b, c@d", "e@f", "e@f"}, "TO": {"a@b, c@d", "e@f", "e@f"}, "tO": {"a@b, c@d", "e@f", "e@f"}, "RECEIVED": {"one;\ttwo"}, "subject": {""}, "t": {"g"}, "[X]": {"h"},
		"": nil, "to ": nil, "to:": nil, " to": nil, "too": nil, "{x}": nil, "receive": nil, "body": nil, "tо": nil, "a@b": nil,
	} {
		if got := m.Find(name); !slices.Equal(got, want) || m.Count(name) != len(want) {
			t.Errorf("Find(%q): %q; %d, not %q", name, got, m.Count(name), want)
		}
	}
	for _, m := range []Message{{}, {Early: true}, {Body: "to: a\r\n"}, {Fields: []Field{}}} {
		if l := m.Find("to"); len(l) != 0 || m.Count("to") != 0 {
			t.Errorf("%+v: %q", m, l)
		}
	}
	// Of one that may not be the fields are asked as they stand.
	odd := Message{Fields: []Field{{"to", " a ", ""}, {"", "b", "x: y"}, {"K", "c", ""}}}
	if l := odd.Find("TO"); !slices.Equal(l, []string{" a "}) || odd.Count("") != 1 || odd.Count("\u212a") != 0 || odd.Count("k") != 1 || odd.Count("x") != 0 {
		t.Errorf("%q", l)
	}
}

// P7.2, R3: the list is the caller's own.
func TestFindNew(t *testing.T) {
	m := mustParse(t, crlf("to: a", "to: b"))
	m.Find("to")[0] = "z"
	if l := m.Find("to"); !slices.Equal(l, []string{"a", "b"}) || m.Fields[0].Value != "a" {
		t.Errorf("%q", l)
	}
}

// foldable tells all bytes of a field's line at which it may be folded: blanks
// of the value behind a comma, and that is a byte of the value other than the blank.
func foldable(ahead, value string) []int {
	var list []int
	for i := range len(value) {
		if strings.HasSuffix(value[:i], ",") && value[i] == ' ' {
			list = append(list, len(ahead)+i)
		}
	}
	return list
}

// layTold is what Lay must answer, told by the words.
func layTold(name, value string) (Field, api.Errno) {
	if !nameForm.MatchString(wide(name)) || !valueForm.MatchString(wide(value)) {
		return Field{}, api.ErrForm
	}
	line := name + ": " + value
	places := foldable(name+": ", value)
	raw, from := "", 0
	for len(line)-from > 78 {
		next := -1
		for _, at := range places {
			if at > from && (at-from < 79 || next < 0) {
				next = at
			}
		}
		if next < 0 {
			break
		}
		raw, from = raw+line[from:next]+"\r\n", next
	}
	return Field{name, strings.Trim(value, " \t"), raw + line[from:] + "\r\n"}, api.OK
}

// holdLay holds what Lay answers against what is told.
func holdLay(t *testing.T, name, value string) {
	t.Helper()
	f, e := Lay(name, value)
	if want, wrong := layTold(name, value); f != want || e != wrong {
		t.Errorf("Lay(%q, %q): %q, %d, not %q, %d", name, value, f, e, want, wrong)
	}
}

// P7.3: a name, a colon, a blank and the value; the value as it is read.
func TestLay(t *testing.T) {
	for _, x := range []struct {
		name, value string
		want        Field
	}{
		{"To", "a@b", Field{"To", "a@b", "To: a@b\r\n"}}, {"TO", "a, b", Field{"TO", "a, b", "TO: a, b\r\n"}}, {"a", "", Field{"a", "", "a: \r\n"}}, {"a", " \t ", Field{"a", "", "a:  \t \r\n"}},
		{"a", " \tb c\t ", Field{"a", "b c", "a:  \tb c\t \r\n"}}, {"!\"#~;,", ":", Field{"!\"#~;,", ":", "!\"#~;,: :\r\n"}}, {"a", "é\xff\x80", Field{"a", "é\xff\x80", "a: é\xff\x80\r\n"}}, {"a", "b: c", Field{"a", "b: c", "a: b: c\r\n"}},
		{"a", "\u00a0", Field{"a", "\u00a0", "a: \u00a0\r\n"}},
	} {
		if f, e := Lay(x.name, x.value); e != api.OK || f != x.want {
			t.Errorf("Lay(%q, %q): %q, %d, not %q", x.name, x.value, f, e, x.want)
		}
	}
	for _, x := range [][2]string{
		{"", ""}, {"", "b"}, {":", "b"}, {"a:", "b"}, {"a:b", "c"}, {"a ", "b"}, {" a", "b"}, {"a b", "c"}, {"a\t", "b"}, {"\t", "b"}, {"a\r\n", "b"}, {"a\r\n b", "c"}, {"é", "b"}, {"a\x80", "b"}, {"\xff", "b"}, {"a\x7f", "b"}, {"a\x00", "b"}, {"a: b\r\nc", "d"},
		{"a", "\r\n"}, {"a", "b\r\n"}, {"a", "b\r\n c"}, {"a", "b\nc: d"}, {"a", "b\r"}, {"a", "\n"}, {"a", "\x00"}, {"a", "b\x7f"}, {"a", "\x1f"}, {"a", "\x08"}, {"a", "b\x0bc"}, {"a", long(100) + ", \x0c"}, {"a", long(9000) + "\n"}, {"a:", "\n"},
	} {
		if f, e := Lay(x[0], x[1]); e != api.ErrForm || f != (Field{}) {
			t.Errorf("Lay(%q, %q): %q, %d", x[0], x[1], f, e)
		}
	}
}

// P7.3: where a line is folded that would have more than 78 bytes.
func TestLayFold(t *testing.T) {
	for _, x := range []struct {
		name, value string
		lines       []string
	}{
		// 78 bytes stand on one line; of more, what stands up to the 79th byte.
		{"a", long(70) + ", yy", []string{"a: " + long(70) + ", yy"}},
		{"a", long(70) + ", yyy", []string{"a: " + long(70) + ", yyy"}},
		{"a", long(70) + ", yyyy", []string{"a: " + long(70) + ",", " yyyy"}},
		{"a", long(74) + ", y", []string{"a: " + long(74) + ",", " y"}},
		{"a", long(75) + ", y", []string{"a: " + long(75) + ",", " y"}},
		{"a", long(10) + ", " + long(62) + ", y", []string{"a: " + long(10) + ", " + long(62) + ",", " y"}},
		{"a", long(10) + ", " + long(63) + ", y", []string{"a: " + long(10) + ",", " " + long(63) + ", y"}},
		// The last one of several; none but such a one.
		{"a", "x, y, " + long(80), []string{"a: x, y,", " " + long(80)}},
		{"a", "x,  " + long(80), []string{"a: x,", "  " + long(80)}},
		{"a", "x,\t" + long(40) + ",y " + long(40), []string{"a: x,\t" + long(40) + ",y " + long(40)}},
		{"a", "x, y ,z " + long(80), []string{"a: x,", " y ,z " + long(80)}},
		// Else the first one behind the 79th byte, if there is one.
		{"a", long(80) + ", y", []string{"a: " + long(80) + ",", " y"}},
		{"a", long(90) + ", y, z", []string{"a: " + long(90) + ",", " y, z"}},
		{"a", long(76) + ", y", []string{"a: " + long(76) + ",", " y"}},
		{"a", long(300), []string{"a: " + long(300)}},
		{"a", long(80) + ",", []string{"a: " + long(80) + ","}},
		{"a", long(40) + " " + long(40), []string{"a: " + long(40) + " " + long(40)}},
		// Each line that follows is folded as well, but not at the blank that it begins with.
		{"a", "x, " + long(80) + ", y", []string{"a: x,", " " + long(80) + ",", " y"}},
		{"a", long(70) + ", " + long(70) + ", " + long(70), []string{"a: " + long(70) + ",", " " + long(70) + ",", " " + long(70)}},
		{"a", long(74) + ", " + long(76) + ", " + long(77), []string{"a: " + long(74) + ",", " " + long(76) + ",", " " + long(77)}},
		{"a", long(75) + ", , " + long(77) + ", z", []string{"a: " + long(75) + ",", " ,", " " + long(77) + ",", " z"}},
		// The value may begin with the comma; it is folded there only where it must be.
		{"a", ", " + long(80), []string{"a: ,", " " + long(80)}},
		{"To", ", " + long(140), []string{"To: ,", " " + long(140)}},
		{"a", ", " + long(80) + ", y", []string{"a: ,", " " + long(80) + ",", " y"}},
		{"a", ", " + long(20) + ", " + long(80), []string{"a: , " + long(20) + ",", " " + long(80)}},
		{"a", ", " + long(73), []string{"a: , " + long(73)}},
		{"a", ", " + long(74), []string{"a: ,", " " + long(74)}},
		{"a", " , " + long(80), []string{"a:  ,", " " + long(80)}},
		{"a", ",, " + long(80), []string{"a: ,,", " " + long(80)}},
		{"a", ", , " + long(80), []string{"a: , ,", " " + long(80)}},
		{"a", ",  " + long(80), []string{"a: ,", "  " + long(80)}},
		{"a", "," + long(80), []string{"a: ," + long(80)}},
		{"a", ",\t" + long(80), []string{"a: ,\t" + long(80)}},
		{"elivered-To", ", aab,,,bbb a ,,,a,a,abbaa ,b aa ,u+@home.org PostMas,bbb,bab aaa ", []string{"elivered-To: ,", " aab,,,bbb a ,,,a,a,abbaa ,b aa ,u+@home.org PostMas,bbb,bab aaa "}},
		// A blank that is the value's first byte, or begins a line, is none to fold at.
		{"a", " " + long(80), []string{"a:  " + long(80)}},
		{"a", "  , " + long(80), []string{"a:   ,", " " + long(80)}},
		// The name is no part of the value, and may be as long as it will.
		{"a,", long(80), []string{"a,: " + long(80)}},
		{"a,", " " + long(80), []string{"a,:  " + long(80)}},
		{long(100), "x, y", []string{long(100) + ": x,", " y"}},
		{long(100), ", y, z", []string{long(100) + ": ,", " y, z"}},
		{long(75), "x, y", []string{long(75) + ": x,", " y"}},
		{long(75), ", y", []string{long(75) + ": ,", " y"}},
		{long(74), ", ", []string{long(74) + ": , "}},
		{long(75), ", ", []string{long(75) + ": ,", " "}},
		{long(76), ",", []string{long(76) + ": ,"}},
		{long(76), "", []string{long(76) + ": "}},
		{long(100), "", []string{long(100) + ": "}},
		// What is folded at may be the last byte; white space at the ends stays in the raw text.
		{"a", long(74) + ", ", []string{"a: " + long(74) + ",", " "}},
		{"a", "x, " + long(73) + ", ", []string{"a: x,", " " + long(73) + ", "}},
		{"a", "x, " + long(71) + ", ", []string{"a: x, " + long(71) + ",", " "}},
		{"a", "  x, " + long(80) + "  ", []string{"a:   x,", " " + long(80) + "  "}},
		{"a", "é, \xff" + long(80), []string{"a: é,", " \xff" + long(80)}},
	} {
		f, e := Lay(x.name, x.value)
		if want := crlf(x.lines...); e != api.OK || f.Raw != want || f.Name != x.name || f.Value != strings.Trim(x.value, " \t") {
			t.Errorf("Lay(%q, %q): %q, %d, not %q", x.name, x.value, f, e, want)
		}
	}
}

// P7.3: each byte in name and value, and texts of all lengths, as the words tell it.
func TestLayForms(t *testing.T) {
	for c := range 256 {
		for _, x := range [][2]string{{"", ""}, {"a", ""}, {"", "b"}, {"a", "b"}} {
			holdLay(t, x[0]+one(c)+x[1], "v")
			holdLay(t, "a", x[0]+one(c)+x[1])
			holdLay(t, "a", "x,"+one(c)+long(80))
			holdLay(t, "a", "x"+one(c)+" "+long(80))
		}
	}
	for many := range 170 {
		for _, behind := range []string{"", ",", ", ", ", y", ", " + long(80), ", " + long(76) + ", y", ",  y", " ,y, z", ", , y"} {
			holdLay(t, "a", long(many)+behind)
			holdLay(t, "a", ", "+long(many)+behind)
			holdLay(t, "a", "x, "+long(many)+behind)
			holdLay(t, long(many+1), "x"+behind)
			holdLay(t, long(many+1), behind)
		}
	}
	every(8, func(s string) { holdLay(t, "a", s+long(80)); holdLay(t, "ab", long(73)+s+long(80)) }, ",", " ", "x")
	for seed := range uint64(60000) {
		holdLay(t, random(seed, 1+int(seed%3), "a", "To", ",", long(30), long(77)), random(seed+1, int(seed%40), ", ", ", ", ",", " ", "x", "ann@home.org", long(20), long(37), long(75), "\t", "é", "\xff"))
	}
}

// P7.3: fields of many bytes are laid too, folded all the way.
func TestLayLong(t *testing.T) {
	value := strings.Repeat("ann@home.org, ", 100000)
	f, e := Lay("To", value)
	if e != api.OK || strings.ReplaceAll(f.Raw, "\r\n", "") != "To: "+value || f.Value != value[:len(value)-1] {
		t.Fatal(e, len(f.Raw))
	}
	for i, line := range lines(f.Raw) {
		if len(line) > 78 || len(line) < 65 && i < 17000 {
			t.Fatalf("line %d: %q", i, line)
		}
	}
	if f, e := Lay(long(1<<20), long(1<<20)); e != api.OK || len(f.Raw) != 2<<20+4 {
		t.Error(e, len(f.Raw))
	}
}

// P7.5: what is laid is read as that name and value, and no line that could be folded is too long.
func TestLayRead(t *testing.T) {
	for seed := range uint64(60000) {
		name := random(seed, 1+int(seed%3), "a", "To", ",", "Resent-", long(30), long(80))
		value := random(seed+1, int(seed%50), ", ", ", ", ",", " ", "\t", "x", ":", "ann@home.org", "bob@far.net, ", long(36), long(75), long(79), "é", "\xff")
		f, e := Lay(name, value)
		if e != api.OK || f.Name != name || f.Value != strings.Trim(value, " \t") || strings.ReplaceAll(f.Raw, "\r\n", "") != name+": "+value {
			t.Fatalf("Lay(%q, %q): %q, %d", name, value, f, e)
		}
		if m, e := Parse(f.Raw); e != api.OK || len(m.Fields) != 1 || m.Fields[0] != f {
			t.Fatalf("%q is read as %q, %d", f.Raw, m.Fields, e)
		}
		for i, line := range lines(f.Raw) {
			ahead := ""
			if i == 0 {
				ahead = name + ": "
			}
			if len(line) > 78 && len(foldable(ahead, line[len(ahead):])) > 0 {
				t.Fatalf("%q of %q, %q", line, name, value)
			}
		}
	}
}

// P7.3: a field ahead of all others; Lay's error, and what would be too long.
func TestAhead(t *testing.T) {
	s := crlf("To: a", "b:  c,", " d", "", "x")
	m := mustParse(t, s)
	n, e := m.Ahead("Received", "three")
	if e != api.OK || n.Text() != "Received: three\r\n"+s || len(n.Fields) != 3 || n.Fields[0] != (Field{"Received", "three", "Received: three\r\n"}) || !n.May() {
		t.Error(n, e)
	}
	n, e = n.Ahead("To", " "+long(70)+", y ")
	if e != api.OK || n.Text() != "To:  "+long(70)+",\r\n y \r\nReceived: three\r\n"+s || n.Fields[0].Value != long(70)+", y" || !n.May() {
		t.Error(n, e)
	}
	// What begins with a comma and a blank is folded there as well.
	n, e = m.Ahead("Cc", ", "+long(140)+", z")
	if e != api.OK || n.Text() != "Cc: ,\r\n "+long(140)+",\r\n z\r\n"+s || n.Fields[0].Value != ", "+long(140)+", z" || !n.May() {
		t.Error(n, e)
	}
	for _, x := range []struct{ s, want string }{{"", "a: b\r\n"}, {"\r\n", "a: b\r\n\r\n"}, {"a:b\r\n", "a: b\r\na:b\r\n"}, {"\r\nx\r\n", "a: b\r\n\r\nx\r\n"}} {
		m := mustParse(t, x.s)
		if n, e := m.Ahead("a", "b"); e != api.OK || n.Text() != x.want || !n.May() || n.Early != m.Early {
			t.Errorf("ahead of %q: %+v, %d", x.s, n, e)
		}
	}
	for _, x := range [][2]string{{"", "b"}, {"a:", "b"}, {"a b", "c"}, {"a", "b\r\n"}, {"a", "b\x00"}, {"a\r\nb", "c"}, {"", long(9000)}, {"a", long(9000) + "\n"}} {
		if n, e := m.Ahead(x[0], x[1]); e != api.ErrForm || !none(n) {
			t.Errorf("Ahead(%q, %q): %+v, %d", x[0], x[1], n, e)
		}
	}
}

// P7.3: field k anew, by its own name; no such one, Lay's error, and what would be too long.
func TestPut(t *testing.T) {
	m := mustParse(t, crlf("Received: one;", "\ttwo", "TO :\ta@b,", " c@d", "to:e", "", "x"))
	for k, want := range []string{
		"Received: x,  y\r\nTO :\ta@b,\r\n c@d\r\nto:e\r\n\r\nx\r\n", "Received: one;\r\n\ttwo\r\nTO: x,  y\r\nto:e\r\n\r\nx\r\n", "Received: one;\r\n\ttwo\r\nTO :\ta@b,\r\n c@d\r\nto: x,  y\r\n\r\nx\r\n",
	} {
		n, e := m.Put(k, "x,  y")
		if e != api.OK || n.Text() != want || n.Fields[k].Name != m.Fields[k].Name || n.Fields[k].Value != "x,  y" || !n.May() {
			t.Errorf("Put(%d): %+v, %d", k, n, e)
		}
		if n, e := m.Put(k, "x\r\ny"); e != api.ErrForm || !none(n) {
			t.Errorf("Put(%d) of two lines: %+v, %d", k, n, e)
		}
		if n, e := m.Put(k, long(9000)+"\x00"); e != api.ErrForm || !none(n) {
			t.Errorf("Put(%d) of much that may not be: %+v, %d", k, n, e)
		}
	}
	if n, e := m.Put(1, " "+long(74)+", z\t"); e != api.OK || n.Fields[1] != (Field{"TO", long(74) + ", z", "TO:  " + long(74) + ",\r\n z\t\r\n"}) || !n.May() {
		t.Error(n, e)
	}
	if n, e := m.Put(0, ", "+long(140)); e != api.OK || n.Fields[0] != (Field{"Received", ", " + long(140), "Received: ,\r\n " + long(140) + "\r\n"}) || !n.May() {
		t.Error(n, e)
	}
	if n, e := m.Put(2, ""); e != api.OK || n.Fields[2] != (Field{"to", "", "to: \r\n"}) || !n.May() {
		t.Error(n, e)
	}
	for _, k := range []int{-1, 3, 4, math.MinInt, math.MaxInt} {
		for _, value := range []string{"", "x", "\r\n", long(9000)} {
			if n, e := m.Put(k, value); e != api.ErrArg || !none(n) {
				t.Errorf("Put(%d, %.9q): %+v, %d", k, value, n, e)
			}
		}
	}
	for _, m := range []Message{{}, {Early: true}, {Body: "a:b\r\n"}} {
		if n, e := m.Put(0, "x"); e != api.ErrArg || !none(n) {
			t.Errorf("Put of %+v: %+v, %d", m, n, e)
		}
	}
}

// P7.3: just 8192 bytes, and one more; of a field that is put its old bytes do not count.
func TestAheadPutLong(t *testing.T) {
	for _, early := range []bool{false, true} {
		m := mustParse(t, crlf("a:"+long(4000), "b:c"))
		if !early {
			m = mustParse(t, crlf("a:b", "", long(4000)))
		}
		room := 8192 - len(m.Text())
		n, e := m.Ahead("To", long(room-6))
		if e != api.OK || len(n.Text()) != 8192 || !n.May() {
			t.Errorf("Ahead, early %t: %d bytes, %d", early, len(n.Text()), e)
		}
		if n, e := m.Ahead("To", long(room-5)); e != api.ErrLong || !none(n) {
			t.Errorf("Ahead, early %t: %d bytes, %d", early, len(n.Text()), e)
		}
		if o, e := n.Ahead("a", ""); e != api.ErrLong || !none(o) {
			t.Errorf("Ahead, early %t: %d bytes, %d", early, len(o.Text()), e)
		}
		room += len(m.Fields[0].Raw)
		if n, e := m.Put(0, long(room-5)); e != api.OK || len(n.Text()) != 8192 || !n.May() {
			t.Errorf("Put, early %t: %d bytes, %d", early, len(n.Text()), e)
		}
		if n, e := m.Put(0, long(room-4)); e != api.ErrLong || !none(n) {
			t.Errorf("Put, early %t: %d bytes, %d", early, len(n.Text()), e)
		}
		if o, e := n.Put(0, "x"); e != api.OK || len(o.Text()) > 8192 {
			t.Errorf("Put, early %t: %d bytes, %d", early, len(o.Text()), e)
		}
	}
	// The ends of lines that are folded count.
	m := Message{Body: long(8096) + "\r\n"}
	if n, e := m.Ahead("To", long(70)+", "+long(12)); e != api.OK || len(n.Text()) != 8192 || !n.May() {
		t.Errorf("%d bytes, %d", len(n.Text()), e)
	}
	if n, e := m.Ahead("To", long(70)+", "+long(13)); e != api.ErrLong || !none(n) {
		t.Errorf("%d bytes, %d", len(n.Text()), e)
	}
}

// P7.3, R1: messages that may not be are answered, too: as their own text tells.
func TestAheadPutOdd(t *testing.T) {
	odd := Message{Fields: []Field{{"", "", ""}, {"a:", "b", "\x00"}, {"c", "d", "no line"}}, Body: long(9000), Early: true}
	n, e := odd.Ahead("x", "y")
	if e != api.OK || n.Text() != "x: y\r\n\x00no line" || n.Body != odd.Body || !n.Early || len(n.Fields) != 4 {
		t.Error(n, e)
	}
	n, e = odd.Put(2, "y")
	if e != api.OK || n.Text() != "\x00c: y\r\n" || n.Body != odd.Body {
		t.Error(n, e)
	}
	for k := range 2 {
		if n, e := odd.Put(k, "y"); e != api.ErrForm || !none(n) {
			t.Error(n, e)
		}
	}
	if n, e := (Message{Body: long(8192)}).Ahead("x", "y"); e != api.ErrLong || !none(n) {
		t.Error(n, e)
	}
	if n, e := (Message{Fields: []Field{{"a", "", ""}, {Raw: long(8190)}}}).Put(0, "y"); e != api.ErrLong || !none(n) {
		t.Error(n, e)
	}
}

// R3: nothing that is handed in changes, and what is answered shares nothing with it.
func TestAheadPutNew(t *testing.T) {
	s := crlf("a:b", "c:d", "e:f", "", "x")
	m := mustParse(t, s)
	m.Fields = slices.Grow(m.Fields, 10)
	ahead, _ := m.Ahead("x", "y")
	put, _ := m.Put(1, "y")
	if _, e := m.Put(1, "\n"); e != api.ErrForm || m.Text() != s || !m.May() {
		t.Fatalf("%+v", m)
	}
	if !slices.Equal(m.Fields[:4][3:], []Field{{}}) {
		t.Errorf("behind the fields: %q", m.Fields[:4][3])
	}
	for k := range m.Fields {
		m.Fields[k] = Field{"z", "z", "z"}
	}
	if ahead.Text() != "x: y\r\n"+s || !ahead.May() || put.Text() != crlf("a:b", "c: y", "e:f", "", "x") || !put.May() {
		t.Errorf("%+v, %+v", ahead, put)
	}
	put.Fields[0].Raw = ""
	if first, _ := Parse(s); first.Text() != s {
		t.Errorf("%+v", first)
	}
}

// P7.4: no byte of other fields and of the body changes, whatever is laid ahead and put.
func TestBytes(t *testing.T) {
	for seed := range uint64(20000) {
		s := random(seed, int(seed%8), "To: a\r\n", "b : c,\r\n\td\r\n", "e:\r\n \r\n", "F:\xff\r\n") + random(seed+1, int(seed%4), "\r\n", "x: y\r\n", "\r\n\xfe z\r\n")
		m := mustParse(t, s)
		value := random(seed+2, int(seed%20), "ann@home.org, ", "x", " ", "é", strconv.Itoa(int(seed)))
		n, e := m.Ahead("Cc", value)
		if e != api.OK || !strings.HasSuffix(n.Text(), s) || n.Text()[:len(n.Text())-len(s)] != n.Fields[0].Raw || !slices.Equal(n.Fields[1:], m.Fields) || !n.May() {
			t.Fatalf("%q ahead of %q: %+v, %d", value, s, n, e)
		}
		for k, old := range m.Fields {
			n, e := m.Put(k, value)
			laid, _ := Lay(old.Name, value)
			if e != api.OK || !n.May() || n.Body != m.Body || n.Early != m.Early || n.Fields[k] != laid || !slices.Equal(slices.Delete(slices.Clone(n.Fields), k, k+1), slices.Delete(slices.Clone(m.Fields), k, k+1)) {
				t.Fatalf("%q at %d of %q: %+v, %d", value, k, s, n, e)
			}
		}
	}
}
