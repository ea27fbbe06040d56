package srs

import (
	"crypto/hmac"
	"crypto/sha1"
	"encoding/base64"
	"fmt"
	"math"
	"math/rand/v2"
	"regexp"
	"slices"
	"strings"
	"testing"

	"postrider/addr"
	"postrider/api"
	"postrider/stamp"
)

// An SRS0 and an SRS1 local part, told as expressions.
var (
	form0 = regexp.MustCompile(`^[Ss][Rr][Ss]0=(.{4})=([A-Za-z2-7]{2})=([^=]+)=(.+)$`)
	form1 = regexp.MustCompile(`^[Ss][Rr][Ss]1=(.{4})=([^=]+)=(.+)$`)
	begun = regexp.MustCompile(`^[Ss][Rr][Ss][01]=`)
	zero  = regexp.MustCompile(`^[Ss][Rr][Ss]0=`)
)

// answer is what Forward and Reverse answer.
type answer struct {
	a api.Addr
	e api.Errno
}

// String tells an answer, for what a test says.
func (x answer) String() string { return fmt.Sprintf("%q, %d", x.a, x.e) }

// forward and reverse are the calls, with what they answer as one.
func (c Coder) forward(a api.Addr, day int64) answer {
	got, e := c.Forward(a, day)
	return answer{got, e}
}

func (c Coder) reverse(a api.Addr, day int64) answer {
	got, e := c.Reverse(a, day)
	return answer{got, e}
}

// at answers an address, parted at the last @.
func at(s string) api.Addr {
	i := strings.LastIndex(s, "@")
	return api.Addr{Local: s[:i], Domain: s[i+1:]}
}

// long answers a text of so many letters.
func long(many int) string { return strings.Repeat("x", many) }

// name answers a domain of so many bytes, whose labels may be.
func name(many int) string {
	return strings.Repeat(long(49)+".", 10)[:many-1] + "z"
}

// lower answers a text with letters of ASCII in lower case.
func lower(s string) string {
	b := []byte(s)
	for i, c := range b {
		if 'A' <= c && c <= 'Z' {
			b[i] = c + 32
		}
	}
	return string(b)
}

// tagTold is the tag of a text, told by the standard's library.
func tagTold(secret, s string) string {
	h := hmac.New(sha1.New, []byte(secret))
	h.Write([]byte(lower(s)))
	return base64.StdEncoding.EncodeToString(h.Sum(nil))[:4]
}

// mayTold tells whether a coder may be.
func mayTold(c Coder) bool {
	wrong := slices.ContainsFunc(c.Domains, func(d string) bool { return lower(d) != d || !addr.MayDomain(d) })
	return len(c.Secret) > 0 && len(c.Secret) < 65 && len(c.Domains) > 0 && len(c.Domains) < 9 && !wrong
}

// oursTold tells whether an address is ours.
func oursTold(c Coder, a api.Addr) bool {
	domain := lower(a.Domain)
	return slices.ContainsFunc(c.Domains, func(d string) bool { return d == domain })
}

// forwardTold is what Forward must answer.
func forwardTold(c Coder, a api.Addr, day int64) answer {
	if !mayTold(c) || !addr.May(a) && a != (api.Addr{}) {
		return answer{e: api.ErrArg}
	}
	if a == (api.Addr{}) || oursTold(c, a) {
		return answer{a: a}
	}
	domain, date := lower(a.Domain), stamp.Text(day)
	local := "SRS0=" + tagTold(c.Secret, date+domain+a.Local) + "=" + date + "=" + domain + "=" + a.Local
	if zero.MatchString(a.Local) {
		local = "SRS1=" + tagTold(c.Secret, domain+a.Local[4:]) + "=" + domain + "=" + a.Local[4:]
	} else if f := form1.FindStringSubmatch(a.Local); f != nil {
		local = "SRS1=" + tagTold(c.Secret, f[2]+f[3]) + "=" + lower(f[2]) + "=" + f[3]
	}
	if len(local) > 64 {
		return answer{a, api.ErrLong}
	}
	return answer{a: api.Addr{Local: local, Domain: c.Domains[0]}}
}

// reverseTold is what Reverse must answer.
func reverseTold(c Coder, a api.Addr, day int64) answer {
	if !mayTold(c) || !addr.May(a) {
		return answer{e: api.ErrArg}
	}
	if !oursTold(c, a) || !begun.MatchString(a.Local) {
		return answer{e: api.ErrNone}
	}
	var back api.Addr
	var tag, of string
	old := false
	if f := form0.FindStringSubmatch(a.Local); f != nil {
		back, tag, of = api.Addr{Local: f[4], Domain: f[3]}, f[1], f[2]+f[3]+f[4]
		// It is not old, if one of 23 days had its stamp: tomorrow, today, and 21 ahead.
		day = max(day, 0)%1024 + 1024
		old = true
		for d := day - 21; d <= day+1; d++ {
			old = old && !strings.EqualFold(stamp.Text(d), f[2])
		}
	} else if f := form1.FindStringSubmatch(a.Local); f != nil {
		back, tag, of = api.Addr{Local: "SRS0" + f[3], Domain: f[2]}, f[1], f[2]+f[3]
	}
	switch {
	case !addr.May(back):
		return answer{e: api.ErrForm}
	case lower(tag) != lower(tagTold(c.Secret, of)):
		return answer{e: api.ErrCheck}
	case old:
		return answer{e: api.ErrOld}
	}
	return answer{a: back}
}

// hold holds what Forward and Reverse answer of an address on a day against what is told.
func hold(t *testing.T, c Coder, a api.Addr, day int64) {
	t.Helper()
	if got, want := c.forward(a, day), forwardTold(c, a, day); got != want {
		t.Errorf("%q Forward(%q, %d): %v, not %v", c, a, day, got, want)
	}
	if got, want := c.reverse(a, day), reverseTold(c, a, day); got != want {
		t.Errorf("%q Reverse(%q, %d): %v, not %v", c, a, day, got, want)
	}
}

// holdReverse holds that Reverse answers that error alone, and that so it is told.
func holdReverse(t *testing.T, c Coder, a api.Addr, day int64, want api.Errno) {
	t.Helper()
	if got := c.reverse(a, day); got != (answer{e: want}) {
		t.Errorf("%q Reverse(%q, %d): %v, not %d", c, a, day, got, want)
	}
	if told := reverseTold(c, a, day); told.e != want {
		t.Errorf("of %q %d is told, not %v", a, told.e, want)
	}
}

// ours is the coder that most tests ask.
func ours() Coder {
	return Coder{"secret", []string{"relay.org", "mx.relay.org", "[127.0.0.1]"}}
}

// sealed0 and sealed1 answer local parts whose tag is that of ours, whatever their parts are.
func sealed0(date, domain, local string) string {
	return "SRS0=" + tagTold("secret", date+domain+local) + "=" + date + "=" + domain + "=" + local
}

func sealed1(domain, rest string) string {
	return "SRS1=" + tagTold("secret", domain+rest) + "=" + domain + "=" + rest
}

// turned answers a text whose letters are in the other case, but those at places that keep tells.
func turned(s string, keep func(i int) bool) string {
	b := []byte(s)
	for i, c := range b {
		letter := 'a' <= c && c <= 'z' || 'A' <= c && c <= 'Z'
		if letter && !keep(i) {
			b[i] = c ^ 32
		}
	}
	return string(b)
}

// never tells no place.
func never(int) bool { return false }

// P12.1: a secret of 1 to 64 bytes, 1 to 8 domains, each lower, each one that an address may have.
func TestMay(t *testing.T) {
	for many := range 200 {
		for _, c := range []string{"x", "\x00", "\xff", " "} {
			if got := (Coder{strings.Repeat(c, many), []string{"a"}}).May(); got != (many >= 1 && many <= 64) {
				t.Errorf("May of a secret of %d bytes: %t", many, got)
			}
		}
	}
	for many := range 30 {
		if got := (Coder{"s", slices.Repeat([]string{"a"}, many)}).May(); got != (many >= 1 && many <= 8) {
			t.Errorf("May of %d domains: %t", many, got)
		}
	}
	may := []string{"a", "a.b", "0", "a-b.c", "[127.0.0.1]", "1.2.3.4", long(63), name(255), "xn--bcher-kva.example"}
	not := []string{
		"", "A", "a.B", "aB", "Z", "RELAY.ORG", "a.", ".a", "a..b", "-a", "a-", "a b", " a", "a_b", "a@b", "a=b", "é", "\xff", "\u212a",
		"[1.2.3]", "[01.2.3.4]", "[256.1.1.1]", "[a]", "[IPv6:::1]", long(64), name(256), "a\n", "*",
	}
	for _, d := range may {
		if !(Coder{"s", []string{d}}).May() {
			t.Errorf("May of %q: false", d)
		}
	}
	for _, d := range not {
		for _, domains := range [][]string{{d}, {d, "a"}, {"a", d}, {"a", d, "b"}, append(slices.Repeat([]string{"a"}, 7), d)} {
			if (Coder{"s", domains}).May() {
				t.Errorf("May of %q", domains)
			}
		}
	}
	if (Coder{}).May() || (Coder{Secret: "s"}).May() || (Coder{Domains: may}).May() || (Coder{"s", append(may, not...)}).May() {
		t.Error("one may be that has no secret, no domains, or too many")
	}
	if !(Coder{"s", may[:8]}).May() || !ours().May() {
		t.Error("one may not be that has eight domains, or three")
	}
}

// P12.1: whose domain, lower, is one of the coder's.
func TestOurs(t *testing.T) {
	c := ours()
	for _, s := range []string{"x@relay.org", "x@RELAY.org", "x@Relay.Org", "x@mx.relay.org", "x@MX.relay.ORG", "x@[127.0.0.1]", "SRS0=x@relay.org", "@relay.org", "é@relay.org", long(65) + "@relay.org"} {
		if !c.Ours(at(s)) {
			t.Errorf("Ours(%q): false", s)
		}
	}
	for _, s := range []string{"x@", "@", "x@relay.com", "x@relay", "x@a.relay.org", "x@relay.org.", "x@relay.org.a", "x@org", "relay.org@x", "x@ relay.org", "x@rélay.org", "x@[127.0.0.2]", "x@127.0.0.1", "x@mx.relay.or", "x@relay.or\u212a"} {
		if c.Ours(at(s)) {
			t.Errorf("Ours(%q)", s)
		}
	}
	// By the words alone, whether the coder may be or not.
	for _, x := range []struct {
		c    Coder
		a    string
		want bool
	}{
		{Coder{}, "x@a", false}, {Coder{}, "@", false}, {Coder{Secret: "s"}, "x@a", false}, {Coder{Domains: []string{"a"}}, "x@A", true}, {Coder{Secret: "s", Domains: []string{"A"}}, "x@A", false},
		{Coder{Secret: "s", Domains: []string{"A"}}, "x@a", false}, {Coder{Secret: "s", Domains: []string{"a_b"}}, "x@A_b", true}, {Coder{Domains: slices.Repeat([]string{"a"}, 9)}, "x@a", true},
	} {
		if got := x.c.Ours(at(x.a)); got != x.want {
			t.Errorf("%q Ours(%q): %t", x.c, x.a, got)
		}
	}
}

// P12.1: ours, and begun with SRS0= or SRS1=, in any case.
func TestIs(t *testing.T) {
	c := ours()
	for _, local := range []string{"SRS0=", "SRS1=", "srs0=", "srs1=", "SrS0=x", "sRs1==", "SRS0=abcd=AA=d=u", "SRS1=abcd=d==", "SRS0=\xff", "SRS1=" + long(100)} {
		for _, domain := range []string{"relay.org", "RELAY.ORG", "Mx.Relay.org", "[127.0.0.1]"} {
			if !c.Is(api.Addr{Local: local, Domain: domain}) {
				t.Errorf("Is(%q at %q): false", local, domain)
			}
		}
		for _, domain := range []string{"", "far.net", "a.relay.org", "relay.org."} {
			if c.Is(api.Addr{Local: local, Domain: domain}) {
				t.Errorf("Is(%q at %q)", local, domain)
			}
		}
	}
	for _, local := range []string{"", "S", "SRS", "SRS0", "SRS1", "srs0", "SRS2=", "SRS=", "SRSo=", "SRSl=", "SRS-=", "SRS0+", "SRS0-x", "SRS0 =", "SRS00=", "SRS01=", "RS0=", "SR0=", " SRS0=", "xSRS0=", "=SRS0=", "5RS0=", "\u017fRS0=", "S\u211b0=", "SRS0\u207c", "\x13RS0=", "ann"} {
		if c.Is(api.Addr{Local: local, Domain: "relay.org"}) {
			t.Errorf("Is(%q at relay.org)", local)
		}
	}
	for place := range 5 {
		for b := range 256 {
			s := []byte("SRS0=x")
			s[place] = byte(b)
			if got, want := c.Is(api.Addr{Local: string(s), Domain: "relay.org"}), begun.Match(s); got != want {
				t.Errorf("Is(%q at relay.org): %t", s, got)
			}
		}
	}
}

// known are senders, what they were written as, and by whom; the tags were told by another program.
var known = []struct {
	secret, from string
	day          int64
	to           string
}{
	{"one", "ann@a.example", 0, "SRS0=8hY6=AA=a.example=ann"},
	{"two", "SRS0=8hY6=AA=a.example=ann@b.example", 0, "SRS1=0rPC=b.example==8hY6=AA=a.example=ann"},
	{"three", "SRS1=0rPC=b.example==8hY6=AA=a.example=ann@c.example", 5, "SRS1=L4ST=b.example==8hY6=AA=a.example=ann"},
	{"secret", "bob=x@Far.net", 33, "SRS0=gIqc=BB=far.net=bob=x"},
	{long(64), "Ann B.@[127.0.0.1]", 20000, "SRS0=sHbj=RA=[127.0.0.1]=Ann B."},
	{"\x00\xff", "SRS1=@d", 1023, "SRS0=Sk9h=77=d=SRS1="},
	{"k", "SRS2=x@d", 1024, "SRS0=mZH/=AA=d=SRS2=x"},
	{"k", "srs0@d", 1, "SRS0=Dv/O=AB=d=srs0"},
	{"k", "SRS0=@D", 1, "SRS1=PByw=d=="},
	{"k", "sRs0=x@d", 1, "SRS1=Qr+g=d==x"},
	{"k", "srs1=abcd=E=f@d", 1, "SRS1=Bvm1=e=f"},
	{"k", "SRS0=ABCD=AA=E.org=U@D", 1, "SRS1=tqHP=d==ABCD=AA=E.org=U"},
}

// P12.2: senders written anew, held against tags that were told elsewhere.
func TestKnown(t *testing.T) {
	for _, x := range known {
		c := Coder{x.secret, []string{"our.org", "b.org"}}
		got := c.forward(at(x.from), x.day)
		if told := forwardTold(c, at(x.from), x.day); got != told {
			t.Errorf("Forward(%q): %v, not %q", x.from, got, told)
		}
		if got != (answer{a: api.Addr{Local: x.to, Domain: "our.org"}}) {
			t.Errorf("Forward(%q): %v, not %q", x.from, got, x.to)
		}
	}
}

// P12.2: of an SRS1 its own domain and rest are written; any four bytes may be its tag.
func TestForwardReadsSrs1(t *testing.T) {
	c := ours()
	hold := func(local, want string) {
		t.Helper()
		a := api.Addr{Local: local, Domain: "Far.net"}
		if got := c.forward(a, 0); got != (answer{a: api.Addr{Local: want, Domain: "relay.org"}}) {
			t.Errorf("Forward(%q): %v, not %q", a, got, want)
		}
		if told := forwardTold(c, a, 0); told.a.Local != want {
			t.Errorf("of %q %v is told, not %v", a, told, want)
		}
	}
	for _, x := range [][3]string{
		{"SRS1=abcd=e=f", "e", "f"}, {"srs1=abcd=e=f", "e", "f"}, {"SRS1======e=f", "e", "f"}, {"SRS1=a=b==e=f", "e", "f"}, {"SRS1======E.F=f", "e.f", "f"}, {"sRs1=    =E=F", "e", "F"},
		{"SRS1=abcd=E==", "e", "="}, {"SRS1=abcd=E==f", "e", "=f"}, {"SRS1=abcd=E=f=g=H", "e", "f=g=H"}, {"SRS1=abcd=-no domain-=f", "-no domain-", "f"}, {"SRS1=abcd=@=@", "@", "@"}, {"SRS1=abcd=Relay.org==x", "relay.org", "=x"},
	} {
		hold(x[0], "SRS1="+tagTold("secret", x[1]+x[2])+"="+x[1]+"="+x[2])
	}
	for _, local := range []string{
		"SRS1=abcd=e=", "SRS1=abcd=e", "SRS1=abcd=", "SRS1=abcd==f", "SRS1=abcd==", "SRS1=abcd===f", "SRS1=abc=e=f", "SRS1=abcde=e=f", "SRS1=====e=f", "SRS1=======f",
		"SRS1=", "SRS1==", "SRS1===", "SRS1=a", "SRS1=abcd", "SRS1=abc", "SRS1", "SRS10=abcd=e=f", "SRS 1=abcd=e=f", "SRS1-abcd=e=f", "SRS1=abcd-e=f", "xSRS1=abcd=e=f", "SRS0", "SRS0-abcd=AA=d=u", "xSRS0=abcd=AA=d=u",
	} {
		hold(local, sealed0("AA", "far.net", local))
	}
}

// P12.2: the null address and what is ours stay as they are, by each of our domains.
func TestForwardAsItIs(t *testing.T) {
	c := ours()
	for _, a := range []api.Addr{
		{}, at("ann@relay.org"), at("Ann@RELAY.org"), at("a b@Mx.relay.ORG"), at("x@[127.0.0.1]"), at("SRS0=abcd=AA=d=u@relay.org"), at("srs1=x@Relay.org"),
		at(long(64) + "@relay.org"), at("SRS0=" + long(59) + "@relay.org"),
	} {
		if got := c.forward(a, 7); got != (answer{a: a}) {
			t.Errorf("Forward(%q): %v", a, got)
		}
	}
	// Other domains are not ours, and what is written is at the first one that is.
	for _, domain := range []string{"a.relay.org", "relay", "org", "relay.orgs", "[127.0.0.2]", "127.0.0.1"} {
		got, e := c.Forward(api.Addr{Local: "u", Domain: domain}, 7)
		if got.Domain != "relay.org" || !strings.HasSuffix(got.Local, "=AH="+domain+"=u") || e != api.OK {
			t.Errorf("Forward(u at %q): %q, %d", domain, got, e)
		}
	}
	c.Domains[0], c.Domains[1] = c.Domains[1], c.Domains[0]
	if got, e := c.Forward(at("u@d"), 7); got.Domain != "mx.relay.org" || e != api.OK {
		t.Errorf("Forward(u@d): %q, %d", got, e)
	}
}

// P12.2: a coder or an address that may not be, whatever else there is.
func TestForwardArg(t *testing.T) {
	for _, a := range []api.Addr{
		{Local: "u"}, {Domain: "relay.org"}, {Domain: "d"}, at("é@d"), at("u\n@d"), at("u@d."), at("u@-d"), at("u@é"), at("u@[1.2.3]"), at(long(65) + "@d"),
		at(long(65) + "@relay.org"), at("u\x00@relay.org"), {Local: "u", Domain: name(256)}, at("SRS0=\x7f@d"), at("SRS1=abcd=d=\xff@d"),
	} {
		if got := ours().forward(a, 0); got != (answer{e: api.ErrArg}) {
			t.Errorf("Forward(%q): %v", a, got)
		}
	}
	for _, c := range []Coder{{}, {Secret: "s"}, {Domains: []string{"d"}}, {long(65), []string{"d"}}, {"s", []string{"D"}}, {"s", []string{"d", ""}}, {"s", slices.Repeat([]string{"d"}, 9)}} {
		for _, a := range []api.Addr{{}, at("u@d"), at("u@e"), at("u@D"), at("SRS0=x@e"), at(long(64) + "@e"), at("u@")} {
			if got := c.forward(a, 0); got != (answer{e: api.ErrArg}) {
				t.Errorf("%q Forward(%q): %v", c, a, got)
			}
		}
	}
}

// P12.2: more than 64 bytes, of each kind of local part; a itself is told with it.
func TestForwardLong(t *testing.T) {
	c := ours()
	for _, x := range []struct {
		ahead, domain string
		more          int // by how much what is written is longer than the local part
	}{
		{"", "D", len("SRS0=abcd=AA=d=")}, {"", "[10.20.30.40]", len("SRS0=abcd=AA=[10.20.30.40]=")}, {"SRS1=", "D", len("SRS0=abcd=AA=d=")},
		{"SRS0=", "D", len("SRS1=abcd=d=") - len("SRS0")}, {"srs0=", "Far.Net", len("SRS1=abcd=far.net=") - len("SRS0")},
		{"SRS1=abcd=e.org=", "Far.net", 0}, {"SRS1=abcd=e.org=", name(255), 0},
	} {
		short := false
		for many := 1; len(x.ahead)+many <= 64; many++ {
			a := api.Addr{Local: x.ahead + long(many), Domain: x.domain}
			got, e := c.Forward(a, 0)
			size := len(a.Local) + x.more
			switch {
			case size > 64 && (got != a || e != api.ErrLong):
				t.Errorf("Forward(%q): %q, %d", a, got, e)
			case size <= 64 && (len(got.Local) != size || got.Domain != "relay.org" || e != api.OK):
				t.Errorf("Forward(%q): %q, %d", a, got, e)
			}
			short = short || size == 64
			hold(t, c, a, 0)
		}
		if !short {
			t.Errorf("of %q at %q nothing has just 64 bytes", x.ahead, x.domain)
		}
	}
	for _, domain := range []string{name(48), name(49), name(50), name(51), name(255)} {
		hold(t, c, api.Addr{Local: "u", Domain: domain}, 0)
	}
	if got := c.forward(api.Addr{Local: "U", Domain: name(255)}, 0); got != (answer{api.Addr{Local: "U", Domain: name(255)}, api.ErrLong}) {
		t.Errorf("Forward of a domain of 255 bytes: %v", got)
	}
}

// P12.3: what it leads to, the domain and the local part as they stand.
func TestReverse(t *testing.T) {
	c := ours()
	for local, want := range map[string]string{
		sealed0("AA", "far.net", "ann"):          "ann@far.net",
		sealed0("AA", "Far.NET", "Ann=B"):        "Ann=B@Far.NET",
		sealed0("aA", "d", "="):                  "=@d",
		sealed0("aa", "[1.2.3.4]", `a "b"\@c`):   `a "b"\@c@[1.2.3.4]`,
		sealed0("AA", "relay.org", "u"):          "u@relay.org",
		sealed0("AA", "d", "SRS0=abcd=AA=e=u"):   "SRS0=abcd=AA=e=u@d",
		sealed0("AB", "d", "u"):                  "u@d", // tomorrow's
		sealed0("76", "d", "u"):                  "u@d",
		sealed0("AA", "d", long(64-15)):          long(64-15) + "@d",
		sealed1("far.net", "=abcd=AA=d=u"):       "SRS0=abcd=AA=d=u@far.net",
		sealed1("Far.Net", "=ABCD=old no stamp"): "SRS0=ABCD=old no stamp@Far.Net",
		sealed1("d", "x"):                        "SRS0x@d",
		sealed1("d", "="):                        "SRS0=@d",
		sealed1("relay.org", "=x=y"):             "SRS0=x=y@relay.org",
		sealed1("[1.2.3.4]", "=@"):               "SRS0=@@[1.2.3.4]",
		"srs0" + sealed0("AA", "d", "u")[4:]:     "u@d",
		"sRs1" + sealed1("d", "=u")[4:]:          "SRS0=u@d",
		turned(sealed0("AA", "d", "u"), onlyTag): "u@d",
		turned(sealed1("d", "=AA=Ann"), onlyTag): "SRS0=AA=Ann@d",
	} {
		for _, domain := range []string{"relay.org", "RELAY.org", "mx.relay.org", "[127.0.0.1]"} {
			a := api.Addr{Local: local, Domain: domain}
			hold(t, c, a, 0)
			if got := c.reverse(a, 0); got != (answer{a: at(want)}) {
				t.Errorf("Reverse(%q): %v, not %q", a, got, want)
			}
		}
	}
}

// onlyTag tells all places but a tag's.
func onlyTag(i int) bool { return i < 5 || i >= 9 }

// P12.3: ErrArg, and ErrNone, whatever else is wrong.
func TestReverseArgNone(t *testing.T) {
	for _, a := range []api.Addr{
		{}, {Local: sealed0("AA", "d", "u")}, {Domain: "relay.org"}, at("é@relay.org"), at("u@relay.org."), at("SRS0=\n@relay.org"), at("SRS0=" + long(60) + "@relay.org"), at(long(65) + "@far.net"), at("u@-"),
		at(sealed0("AA", "d", "\x7f") + "@relay.org"), at(sealed1("d", "=é") + "@relay.org"), {Local: "u", Domain: name(256)},
	} {
		holdReverse(t, ours(), a, 0, api.ErrArg)
	}
	for _, c := range []Coder{{}, {Domains: []string{"relay.org"}}, {Secret: "secret"}, {"secret", []string{"relay.org", "D"}}, {"secret", slices.Repeat([]string{"relay.org"}, 9)}, {long(65), []string{"relay.org"}}} {
		for _, a := range []api.Addr{{}, at(sealed0("AA", "d", "u") + "@relay.org"), at("u@relay.org"), at("u@d"), at("SRS0=x@relay.org")} {
			holdReverse(t, c, a, 0, api.ErrArg)
		}
	}
	good := sealed0("AA", "d", "u")
	for _, a := range []api.Addr{
		at(good + "@d"), at(good + "@a.relay.org"), at(good + "@org"), at("u@relay.org"), at("SRS0@relay.org"), at("SRS2" + good[4:] + "@relay.org"), at("SRS0-" + good[5:] + "@relay.org"),
		at("x" + good + "@relay.org"), at(" " + good + "@relay.org"), at(good[1:] + "@relay.org"), at("SRS0+x@mx.relay.org"), at("SRS0=x@far.net"), at("SRS1=x@far.net"), at("u@far.net"),
	} {
		holdReverse(t, ours(), a, 0, api.ErrNone)
	}
}

// P12.3: what begins so, and is no such local part, or leads to what may not be: ahead of the tag and the age.
func TestReverseForm(t *testing.T) {
	for _, local := range []string{
		"SRS0=", "SRS1=", "srs0=", "SRS0==", "SRS0===", "SRS0====", "SRS0=====", "SRS0======", "SRS0========", "SRS0==============", "SRS1==", "SRS1======", "SRS1=======", "SRS1==============",
		"SRS0=abcd", "SRS0=abcd=", "SRS0=abcd=A", "SRS0=abcd=AA", "SRS0=abcd=AA=", "SRS0=abcd=AA=d", "SRS0=abcd=AA=d=", "SRS0=abcd=AA==", "SRS0=abcd=AA==u", "SRS0=abcd=AA===",
		"SRS0=abc=AA=d=u", "SRS0=abcde=AA=d=u", "SRS0==AA=d=u", "SRS0=AA=d=u", "SRS0=abcd-AA=d=u", "SRS0=abcd=AA-d=u", "SRS0=abcd=AAA=d=u", "SRS0=abcd=A=d=u", "SRS0=abcd==d=u", "SRS0=abcd=A==d=u", "SRS0=abcd===d=u",
		"SRS0=abcd=A1=d=u", "SRS0=abcd=0A=d=u", "SRS0=abcd=A8=d=u", "SRS0=abcd=9A=d=u", "SRS0=abcd= A=d=u", "SRS0=abcd=A+=d=u", "SRS0=abcd=@A=d=u", "SRS0=abcd=A[=d=u", "SRS0=abcd=`A=d=u", "SRS0=abcd=A{=d=u",
		"SRS1=abcd", "SRS1=abcd=", "SRS1=abcd=d", "SRS1=abcd=d=", "SRS1=abcd==", "SRS1=abcd==x", "SRS1=abcd===x", "SRS1=abc=d=x", "SRS1=abcde=d=x", "SRS1==d=x", "SRS1=d=x", "SRS1=abcd-d=x",
		// With tags that are right, and where these lead may not be.
		sealed0("A1", "d", "u"), sealed0("A", "d", "u"), sealed0("AAA", "d", "u"), sealed0("", "d", "u"), sealed0("AA", "", "u"), sealed0("AA", "d", ""), sealed1("", "x"), sealed1("d", ""), sealed1("", "=x"),
		sealed0("AA", "-d", "u"), sealed0("AA", "d.", "u"), sealed0("AA", "a b", "u"), sealed0("AA", "a@b", "u"), sealed0("AA", "[1.2.3]", "u"), sealed0("AA", "*", "u"), sealed0("ZZ", "d-", "u"), sealed0("AA", "_", "u"),
		sealed1("-d", "=x"), sealed1("d..e", "=x"), sealed1(" ", "=x"), sealed1("[1.2.3.256]", "=x"), sealed1("a@b", "=x"),
	} {
		holdReverse(t, ours(), api.Addr{Local: local, Domain: "relay.org"}, 0, api.ErrForm)
	}
}

// P12.3: another tag, ahead of the age; any four bytes may be one.
func TestReverseCheck(t *testing.T) {
	for _, local := range []string{
		"SRS0=abcd=AA=d=u", "SRS0======AA=d=u", "SRS0=    =AA=d=u", "SRS0=a=b==AA=d=u", "SRS0==AA==AA=d=u", "SRS0=@@@@=AA=d=u", "SRS0=abcd=ZZ=d=u", "SRS0=abcd=AA=d==", "SRS1=abcd=d=x", "SRS1======d=x", "SRS1======d==", "SRS1=d=x==d=x", "SRS1=abcd=d==",
	} {
		holdReverse(t, ours(), api.Addr{Local: local, Domain: "relay.org"}, 0, api.ErrCheck)
	}
	for _, good := range []string{sealed0("AA", "far.net", "ann.b"), sealed1("far.net", "=abcd=AA=d=u")} {
		tag := good[5:9]
		for place := range 4 {
			for c := ' '; c <= '~'; c++ {
				other := []byte(good)
				other[5+place] = byte(c)
				a := api.Addr{Local: string(other), Domain: "relay.org"}
				got := ours().reverse(a, 0)
				if same := lower(string(c)) == lower(tag[place:place+1]); same != (got.e == api.OK) || !same && got != (answer{e: api.ErrCheck}) {
					t.Errorf("Reverse(%q): %v", a, got)
				}
				hold(t, ours(), a, 0)
			}
		}
		// Another secret, and parts of others' with their tags.
		for _, secret := range []string{"secreT", "secret ", "\x00secret", "s", long(64)} {
			holdReverse(t, Coder{secret, []string{"relay.org"}}, api.Addr{Local: good, Domain: "relay.org"}, 0, api.ErrCheck)
		}
		for _, other := range []string{sealed0("AA", "far.net", "bob"), sealed0("AB", "far.net", "ann.b"), sealed0("AA", "far.com", "ann.b"), sealed1("far.net", "=abcd=AA=d=v"), sealed1("far.com", "=abcd=AA=d=u")} {
			holdReverse(t, ours(), api.Addr{Local: good[:5] + other[5:9] + good[9:], Domain: "relay.org"}, 0, api.ErrCheck)
		}
	}
	// The tag is of the parts joined, and of their letters in any case: where they are parted says nothing.
	for _, local := range []string{"SRS0=" + sealed0("AA", "de", "u")[5:9] + "=AA=d=eu", "SRS1=" + sealed1("de", "=x")[5:9] + "=d=e=x", "SRS0=" + sealed0("AA", "d", "u")[5:9] + "=aa=D=U"} {
		if _, e := ours().Reverse(api.Addr{Local: local, Domain: "relay.org"}, 0); e != api.OK {
			t.Errorf("Reverse(%q): %d", local, e)
		}
	}
}

// P12.3: an SRS0's age, of each stamp on many days; an SRS1 has none.
func TestReverseOld(t *testing.T) {
	c := ours()
	for n := range 1024 {
		date := stamp.Text(int64(n))
		a := api.Addr{Local: sealed0(date, "d", "u"), Domain: "relay.org"}
		for _, age := range []int{0, 1, 2, 20, 21, 22, 23, 24, 500, 1000, 1001, 1002, 1021, 1022, 1023, 1024, 1045, 1046} {
			want := answer{a: at("u@d")}
			if counted := age % 1024; counted > 21 && counted != 1023 {
				want = answer{e: api.ErrOld}
			}
			if got := c.reverse(a, int64(n+age)); got != want {
				t.Errorf("Reverse(%q, %d): %v, not %q", a, n+age, got, want)
			}
		}
	}
	for _, day := range []int64{math.MinInt64, -1024, -22, -1, 0, 1, 21, 22, 1022, 1023, 1024, 1045, 1046, math.MaxInt64 - 22, math.MaxInt64} {
		for _, date := range []string{"AA", "aa", "AB", "AV", "AW", "77", "76", "7C", "7B", "7A"} {
			hold(t, c, api.Addr{Local: sealed0(date, "d", "u"), Domain: "relay.org"}, day)
			hold(t, c, api.Addr{Local: "u", Domain: "d"}, day)
			rest := api.Addr{Local: sealed1("d", sealed0(date, "e", "u")[4:]), Domain: "relay.org"}
			if got := c.reverse(rest, day); got.e != api.OK {
				t.Errorf("Reverse(%q, %d): %v", rest, day, got)
			}
		}
	}
}

// senders are such as are not ours, of all kinds, and short enough.
var senders = []string{
	"ann@a.example", "Ann@A.Example", "u@d", "u@D", "a b@d.org", "=@d", "==@d", "a=b=c@d.org", "SRS0@d", "SRS1=@d", "srs1=x@d", "SRS1=abcd=@d", "SRS2=x@d", "SRS@d", `"@d`, `\@d`, "@@d", "~@[127.0.0.1]", "u@[10.0.0.1]",
	"u@1.2.3.4", "AA@BB", "a+b@x.y", "postMaster@Far.net", long(49) + "@d", "u@" + name(49),
}

// P12.4: back to the sender, on the day, 21 days from then on, and one ahead; then no more for 1001 days.
func TestBackToSender(t *testing.T) {
	c := Coder{"some secret", []string{"relay.org", "x.org"}}
	for _, s := range senders {
		a := at(s)
		for _, day := range []int64{0, 1, 500, 1002, 1003, 1022, 1023, 1024, 20000, 12725829} {
			written, e := c.Forward(a, day)
			if e != api.OK || written.Domain != "relay.org" || !addr.May(written) || !c.Is(written) {
				t.Fatalf("Forward(%q, %d): %q, %d", a, day, written, e)
			}
			back := answer{a: api.Addr{Local: a.Local, Domain: lower(a.Domain)}}
			for later := int64(-1); later <= 21; later++ {
				if got := c.reverse(written, day+later); got != back {
					t.Errorf("Reverse(%q, %d), of day %d: %v", written, day+later, day, got)
				}
			}
			for later := int64(22); later <= 22+1001-1; later += 1 + later%7 {
				if got := c.reverse(written, day+later); got != (answer{e: api.ErrOld}) {
					t.Errorf("Reverse(%q, %d), of day %d: %v", written, day+later, day, got)
				}
			}
			if got := c.reverse(written, day+22+1000); got != (answer{e: api.ErrOld}) {
				t.Errorf("Reverse(%q, %d), of day %d: %v", written, day+1022, day, got)
			}
			if got := c.reverse(written, day+22+1001); got != back {
				t.Errorf("Reverse(%q, %d), of day %d: %v", written, day+1023, day, got)
			}
			if got := c.forward(written, day+9); got != (answer{a: written}) {
				t.Errorf("Forward(%q), ours already: %v", written, got)
			}
		}
	}
}

// P12.5: through two hosts, and through more of them, it leads back by the last one and the first one.
func TestBackByTwo(t *testing.T) {
	first := Coder{"first", []string{"one.org"}}
	for _, s := range []string{"u@d", "A=b@X", "ann@a.example", "a b@d", "==@d"} {
		a := at(s)
		one, e := first.Forward(a, 40)
		if e != api.OK {
			t.Fatalf("Forward(%q): %d", a, e)
		}
		ahead := one
		for i, domain := range []string{"two.org", "Three.org", "number-four.example", "[5.5.5.5]", "two.org"} {
			next := Coder{fmt.Sprint("secret ", i), []string{lower(domain), "o.org"}}
			written, e := next.Forward(ahead, 41)
			if e != api.OK || written.Domain != lower(domain) || len(written.Local) != len("SRS1=abcd=one.org=")+len(one.Local)-len("SRS0") {
				t.Fatalf("Forward(%q): %q, %d", ahead, written, e)
			}
			// The first one's age is not the next one's to ask.
			for _, day := range []int64{0, 40, 41, 62, 63, 500} {
				if got := next.reverse(written, day); got != (answer{a: one}) {
					t.Errorf("Reverse(%q, %d): %v, not %q", written, day, got, one)
				}
			}
			ahead = written
		}
		if got := first.reverse(one, 61); got != (answer{a: api.Addr{Local: a.Local, Domain: lower(a.Domain)}}) {
			t.Errorf("Reverse(%q): %v", one, got)
		}
		if got := first.reverse(one, 62); got != (answer{e: api.ErrOld}) {
			t.Errorf("Reverse(%q), 22 days later: %v", one, got)
		}
	}
}

// P12.5: what others wrote is not asked what it is: whatever begins with SRS0= leads back to it.
func TestBackToOthers(t *testing.T) {
	c := ours()
	for _, local := range []string{"SRS0=", "SRS0==", "SRS0=x", "SRS0=abcd=AA=d=u", "SRS0=SRS1=SRS0=", "SRS0= ", "SRS0=toolong=A=", "SRS0=abcd=AA=D=U"} {
		for _, front := range []string{"SRS0", "srs0", "Srs0"} {
			a := api.Addr{Local: front + local[4:], Domain: "Far.net"}
			written, e := c.Forward(a, 0)
			if e != api.OK || !strings.HasPrefix(written.Local, "SRS1=") {
				t.Errorf("Forward(%q): %q, %d", a, written, e)
			}
			if got := c.reverse(written, 700); got != (answer{a: api.Addr{Local: local, Domain: "far.net"}}) {
				t.Errorf("Reverse(%q): %v", written, got)
			}
		}
	}
}

// P12.6: letters that lost their case, some of them or all, in any part.
func TestCaseLost(t *testing.T) {
	c := Coder{"secret", []string{"relay.org"}}
	from := rand.New(rand.NewPCG(12, 6))
	for _, s := range append(senders, "SRS0=Ab+d=AA=X.org=Ann.B@Far.net", "SRS1=Ab+d=X.org==Ab/d=AA=Y.org=U@Far.net") {
		for day := range int64(30) {
			written, e := c.Forward(at(s), day)
			if e != api.OK {
				t.Fatalf("Forward(%q): %d", s, e)
			}
			was := c.reverse(written, day)
			locals := []string{lower(written.Local), strings.ToUpper(written.Local), turned(written.Local, never)}
			for range 20 {
				locals = append(locals, turned(written.Local, func(int) bool { return from.IntN(2) == 0 }))
			}
			for _, local := range locals {
				a := api.Addr{Local: local, Domain: turned(written.Domain, never)}
				got := c.reverse(a, day)
				if got.e != api.OK || lower(got.a.Local) != lower(was.a.Local) || lower(got.a.Domain) != was.a.Domain {
					t.Errorf("Reverse(%q, %d): %v, not but for case %v", a, day, got, was)
				}
				hold(t, c, a, day)
			}
		}
	}
}

// P12.2, P12.3: any byte at any place of local parts, and these cut, and with others behind them.
func TestEachByte(t *testing.T) {
	c := ours()
	for _, good := range []string{sealed0("AB", "x.org", "u=v"), sealed1("x.org", "=abcd=AA=d=u"), sealed1("d", "="), sealed0("AA", "d", "u")} {
		for _, domain := range []string{"relay.org", "far.net"} {
			for place := range len(good) {
				for b := range 256 {
					other := string([]byte{byte(b)})
					hold(t, c, api.Addr{Local: good[:place] + other + good[place+1:], Domain: domain}, 1)
					hold(t, c, api.Addr{Local: good[:place] + other + good[place:], Domain: domain}, 1)
				}
				hold(t, c, api.Addr{Local: good[:place], Domain: domain}, 1)
				hold(t, c, api.Addr{Local: good[place:], Domain: domain}, 1)
				hold(t, c, api.Addr{Local: good[:place] + good[place+1:], Domain: domain}, 1)
			}
		}
	}
}

// P12.2, P12.3: local parts put together of pieces, their tags right or not.
func TestPieces(t *testing.T) {
	c := ours()
	pieces := []string{"=", "=", "=", "==", "SRS0", "SRS1", "srs0", "srs1", "SRS0=", "SRS1=", "abcd", "====", "AA", "AB", "ab", "AW", "A1", "d", "D", "x.org", "-", "u", " ", "[1.2.3.4]", "far.net"}
	from := rand.New(rand.NewPCG(12, 3))
	seen := map[api.Errno]int{}
	for range 200000 {
		local := []string{"SRS0=", "SRS1=", "SRS0=abcd=AA=", "SRS1=abcd=d=", "SRS0=abcd=AW=d=", ""}[from.IntN(6)]
		for range from.IntN(7) {
			local += pieces[from.IntN(len(pieces))]
		}
		// Half of them have the tag of what is parted as in the words.
		if from.IntN(2) == 0 {
			if f := form0.FindStringSubmatch(local); f != nil {
				local = local[:5] + tagTold("secret", f[2]+f[3]+f[4]) + local[9:]
			} else if f := form1.FindStringSubmatch(local); f != nil {
				local = local[:5] + tagTold("secret", f[2]+f[3]) + local[9:]
			}
		}
		a := api.Addr{Local: local, Domain: []string{"relay.org", "Relay.ORG", "far.net"}[from.IntN(3)]}
		seen[c.reverse(a, 1).e]++
		hold(t, c, a, 1)
	}
	for _, e := range []api.Errno{api.OK, api.ErrArg, api.ErrNone, api.ErrForm, api.ErrCheck, api.ErrOld} {
		if seen[e] < 100 {
			t.Errorf("%d was answered only %d times", e, seen[e])
		}
	}
}

// P12.1 to P12.3: what is handed in is only read, and nothing is kept (R3, R7).
func TestNotKept(t *testing.T) {
	c, same := ours(), ours()
	a := at("Ann@Far.net")
	first := c.forward(a, 5)
	for range 3 {
		if got := c.forward(a, 5); got != first {
			t.Errorf("Forward(%q) once more: %v, not %v", a, got, first)
		}
		c.May()
		c.Is(a)
		c.reverse(first.a, 5)
		if c.Secret != same.Secret || !slices.Equal(c.Domains, same.Domains) {
			t.Errorf("the coder has become %q", c)
		}
	}
	c.Secret, c.Domains[0] = "other", "other.org"
	if got := c.forward(a, 5); got == first || got.a.Domain != "other.org" {
		t.Errorf("Forward of another coder: %v", got)
	}
	holdReverse(t, c, first.a, 5, api.ErrNone)
	if got := same.reverse(first.a, 5); got != (answer{a: at("Ann@far.net")}) {
		t.Errorf("Reverse of the same coder: %v", got)
	}
}

// P12.1 to P12.3: what is far too long is answered too (R1).
func TestFarTooLong(t *testing.T) {
	huge := strings.Repeat("SRS0=", 200000)
	for _, c := range []Coder{ours(), {huge, []string{"a"}}, {"s", []string{huge}}, {"s", slices.Repeat([]string{"a"}, 100000)}} {
		for _, a := range []api.Addr{{Local: huge, Domain: "relay.org"}, {Local: huge, Domain: huge}, {Local: "u", Domain: huge}, {Local: "SRS0=x", Domain: huge}} {
			if got := c.forward(a, 0); got != (answer{e: api.ErrArg}) {
				t.Errorf("Forward: %d", got.e)
			}
			if got := c.reverse(a, 0); got != (answer{e: api.ErrArg}) {
				t.Errorf("Reverse: %d", got.e)
			}
			if want := oursTold(c, a) && begun.MatchString(a.Local); c.Is(a) != want {
				t.Errorf("Is: not %t", want)
			}
		}
	}
}
