package coding

import (
	"bytes"
	stdbase32 "encoding/base32"
	stdbase64 "encoding/base64"
	stdhex "encoding/hex"
	"math/rand/v2"
	"slices"
	"strconv"
	"strings"
	"testing"

	"postrider/api"
)

// told is a kind of letters as its words have it, and the calls that are held against that.
type told struct {
	name    string
	letters string
	wide    int  // how many bits a letter stands for
	row     int  // what their number, with =, is a multiple of
	cases   bool // whether small and great ones are read alike
	lay     func(b []byte) string
	read    func(s string) ([]byte, api.Errno)
	other   func(b []byte) string // another telling of lay
}

func all() []told {
	return []told{
		{"Base32", "ABCDEFGHIJKLMNOPQRSTUVWXYZ234567", 5, 1, true, Base32, FromBase32,
			stdbase32.StdEncoding.WithPadding(stdbase32.NoPadding).EncodeToString},
		{"Base64", "ABCDEFGHIJKLMNOPQRSTUVWXYZabcdefghijklmnopqrstuvwxyz0123456789+/", 6, 4, false, Base64, FromBase64,
			stdbase64.StdEncoding.EncodeToString},
		{"Hex", "0123456789abcdef", 4, 1, true, Hex, FromHex, stdhex.EncodeToString},
	}
}

// bitsOf are the bits of a number, the highest first, each a 0 or a 1.
func bitsOf(number, wide int) string {
	s := strconv.FormatInt(int64(number), 2)
	return strings.Repeat("0", wide-len(s)) + s
}

// numberOf is the number that bits are.
func numberOf(bits string) int {
	number, _ := strconv.ParseInt(bits, 2, 64)
	return int(number)
}

// laid are the letters of bytes, told by bits written out.
func (k told) laid(b []byte) string {
	bits := ""
	for _, c := range b {
		bits += bitsOf(int(c), 8)
	}
	for len(bits)%k.wide != 0 {
		bits += "0"
	}
	s := ""
	for ; bits != ""; bits = bits[k.wide:] {
		s += k.letters[numberOf(bits[:k.wide]):][:1]
	}
	for len(s)%k.row != 0 {
		s += "="
	}
	return s
}

// first is how letters stand where the bytes are told: small or great ones, as the kind has them.
func (k told) first(s string) string {
	switch k.name {
	case "Base32":
		return strings.Map(asGreat, s)
	case "Hex":
		return strings.Map(asSmall, s)
	}
	return s
}

func asGreat(r rune) rune {
	if 'a' <= r && r <= 'z' {
		return r - 32
	}
	return r
}

func asSmall(r rune) rune {
	if 'A' <= r && r <= 'Z' {
		return r + 32
	}
	return r
}

// reads are the bytes that letters are of, told by bits written out, and whether they are some.
func (k told) reads(s string) ([]byte, bool) {
	bits := ""
	for i := range len(s) {
		c := s[i]
		if k.cases && k.name == "Base32" && 'a' <= c && c <= 'z' || k.name == "Hex" && 'A' <= c && c <= 'F' {
			c ^= 32
		}
		place := strings.IndexByte(k.letters, c)
		if place >= 0 {
			bits += bitsOf(place, k.wide)
			continue
		}
		// Behind the last letter all is =, no more of it than fills up a row.
		if k.row == 1 || i%k.row == 0 || len(s)%k.row != 0 || len(s)-i >= k.row || s[i:] != strings.Repeat("=", len(s)-i) {
			return nil, false
		}
		break
	}
	if k.row > 1 && len(s)%k.row != 0 {
		return nil, false
	}
	whole := len(bits) / 8 * 8
	if len(bits)-whole >= k.wide || strings.Contains(bits[whole:], "1") {
		return nil, false
	}
	b := []byte{}
	for ; len(bits) >= 8; bits = bits[8:] {
		b = append(b, byte(numberOf(bits[:8])))
	}
	return b, true
}

// holdLaid holds the letters of bytes against both other tellings, and reads them back.
func holdLaid(t *testing.T, k told, b []byte) {
	t.Helper()
	s := k.lay(b)
	if want := k.other(b); s != want {
		t.Fatalf("%s of %x: %s, not %s", k.name, b, s, want)
	}
	if got, e := k.read(s); e != api.OK || !bytes.Equal(got, b) {
		t.Fatalf("From%s(%q): %x, %d, not %x", k.name, s, got, e, b)
	}
}

// holdRead holds what a text is read as against the other telling, and tells whether it is read.
func holdRead(t *testing.T, k told, s string) bool {
	t.Helper()
	got, e := k.read(s)
	want, ok := k.reads(s)
	switch {
	case ok && (e != api.OK || !bytes.Equal(got, want)):
		t.Fatalf("From%s(%q): %x, %d, not %x", k.name, s, got, e, want)
	case !ok && (e != api.ErrForm || len(got) != 0):
		t.Fatalf("From%s(%q): %x, %d, not ErrForm", k.name, s, got, e)
	case ok && k.lay(got) != k.first(s):
		t.Fatalf("%s of what %q is read as: %q", k.name, s, k.lay(got))
	}
	return ok
}

// some answers so many bytes that hang on a seed alone.
func some(seed uint64, many int) []byte {
	from := rand.New(rand.NewPCG(seed, 11))
	b := make([]byte, many)
	for i := range b {
		b[i] = byte(from.Uint32())
	}
	return b
}

// mixed answers a text each of whose letters is small or great, as a seed has it.
func mixed(seed uint64, s string) string {
	from := rand.New(rand.NewPCG(seed, 12))
	return strings.Map(func(r rune) rune {
		if from.IntN(2) == 0 {
			return asSmall(r)
		}
		return asGreat(r)
	}, s)
}

// P11.1, P11.2: letters that RFC 4648 tells, and the chapter.
func TestKnown(t *testing.T) {
	for _, x := range []struct{ b, base32, base64, hex string }{
		{"", "", "", ""},
		{"f", "MY", "Zg==", "66"},
		{"fo", "MZXQ", "Zm8=", "666f"},
		{"foo", "MZXW6", "Zm9v", "666f6f"},
		{"foob", "MZXW6YQ", "Zm9vYg==", "666f6f62"},
		{"fooba", "MZXW6YTB", "Zm9vYmE=", "666f6f6261"},
		{"foobar", "MZXW6YTBOI", "Zm9vYmFy", "666f6f626172"},
		{"\x00", "AA", "AA==", "00"},
		{"\xff", "74", "/w==", "ff"},
		{"\x00\xff\x10\x83", "AD7RBAY", "AP8Qgw==", "00ff1083"},
		{"\xff\xff\xff\xff\xff", "77777777", "//////8=", "ffffffffff"},
		{"\xfb\xef\xbe", "7PX34", "++++", "fbefbe"},
		{"\x00\x44\x32\x14\xc7\x42\x54\xb6\x35\xcf", "ABCDEFGHIJKLMNOP", "AEQyFMdCVLY1zw==", "00443214c74254b635cf"},
		{"\x84\x65\x3a\x56\xd7\xc6\x75\xbe\x77\xdf", "QRSTUVWXYZ234567", "hGU6VtfGdb533w==", "84653a56d7c675be77df"},
		{"\x01\x23\x45\x67\x89\xab\xcd\xef", "AERUKZ4JVPG66", "ASNFZ4mrze8=", "0123456789abcdef"},
		{"\x00\x10\x83\x10\x51\x87\x20\x92\x8b\x30\xd3\x8f\x41\x14\x93\x51\x55\x97\x61\x96\x9b\x71\xd7\x9f",
			"AAIIGECRQ4QJFCZQ2OHUCFETKFKZOYMWTNY5PHY", "ABCDEFGHIJKLMNOPQRSTUVWXYZabcdef", "00108310518720928b30d38f41149351559761969b71d79f"},
		{"\x82\x18\xa3\x92\x59\xa7\xa2\x9a\xab\xb2\xdb\xaf\xc3\x1c\xb3\xd3\x5d\xb7\xe3\x9e\xbb\xf3\xdf\xbf",
			"QIMKHESZU6RJVK5S3OX4GHFT2NO3PY46XPZ57PY", "ghijklmnopqrstuvwxyz0123456789+/", "8218a39259a7a29aabb2dbafc31cb3d35db7e39ebbf3dfbf"},
	} {
		for i, want := range []string{x.base32, x.base64, x.hex} {
			k := all()[i]
			if got := k.lay([]byte(x.b)); got != want {
				t.Errorf("%s(%q): %q, not %q", k.name, x.b, got, want)
			}
			if got, e := k.read(want); e != api.OK || string(got) != x.b {
				t.Errorf("From%s(%q): %q, %d, not %q", k.name, want, got, e, x.b)
			}
		}
	}
}

// P11.2: what is no such letters.
func TestWrong(t *testing.T) {
	wrong := map[string][]string{
		"Base32": {
			"M", "MZX", "MZXW6Y", "MZXW6YTBO", // no number of letters that bytes have
			"MZ", "M2", "MZXR", "MZXW7", "MZXW6YR", "MZXW6YTBOJ", // bits behind the last byte
			"MY======", "MY=", "M=======", "=", "========", "MZXW6YTB=", "=MY", "MZXQ====", // with =
			"M0", "1Y", "M8", "9Y", "OI0Q", "M+", "M/", "M-", "M_", // others' letters
			" MY", "MY ", "M Y", "MY\n", "MY\r\n", "MZXW\r\n6YTB", "M\x00", "\x00\x00",
			"\u017fA", "\u212aA", "M\u00d9", "\xcd\xd9", "\ufeffMY", "M\x19", "M\x12", "M\x17", "m\x19", "@A", "[A", "`A", "{A",
		},
		"Base64": {
			"Z", "Zg", "Zg=", "Zg===", "Zg====", "Zg======", "Zm9", "Zm9==", "Zm9===", "Zm9v=", "Zm9v==", "Zm9v====", // too few =, too many
			"Z===", "Z=", "Z==", "Zm9vY===", "=", "==", "===", "====", "Zm9v====Zm9v", "Zg==Zg==", "Zg==Zm9v", "=Zg=", "Z=g=", "Z=m9", "=m9v", "==Zg", "Zm=v",
			"Zh==", "Zv==", "Zm9=", "Zm/=", "//==", "///=", "AP8Qgx==", "Zm9vYh==", // bits behind the last byte
			"Zm9-", "Zm9_", "-_-_", "Zm9.", "Zm9,", "Zm9:", "Zm9@", "Zm9[", "Zm9`", "Zm9{", "Zm9*", // others' letters
			" Zm9v", "Zm9v ", "Zm 9v", "Zm9v\n", "Zm9v\r\n", "Zm9v\r\nYmFy", "Zm9\n", "Zg=\n=", "Zg==\n", "Zg==\r\n", "\nZm9", "\n\n\n\n", "Zm9\x00", "\x00\x00\x00\x00",
			"Zm\u00e9", "\xda\xed\xb9\xf6",
		},
		"Hex": {
			"0", "f", "666", "00000", // no number of letters that bytes have
			"0g", "g0", "0G", "zz", "0/", "0:", "0@", "0`", "0O", "0l", "0x", "0x66", "x0", // others' letters
			"66=", "66==", "6=", "=6", "=", "==", "6==6", // with =
			" 66", "66 ", "6 6", "66\n", "66\r\n", "6\n", "66 66", "66:66", "0\x00", "\x00\x00", "0\x10", "0\x19",
			"\xb0\xb0", "\xe6\xe6", "0\uff10", "\u0660", "-1", "+1", "1_1",
		},
	}
	for _, k := range all() {
		for _, s := range wrong[k.name] {
			if got, e := k.read(s); e != api.ErrForm || len(got) != 0 {
				t.Errorf("From%s(%q): %x, %d, not ErrForm", k.name, s, got, e)
			}
			if holdRead(t, k, s) {
				t.Errorf("%s: %q is read", k.name, s)
			}
		}
	}
}

// P11.2: letters in any case, of Base32 and Hex; in Base64 the other case is another letter.
func TestCase(t *testing.T) {
	for _, s := range []string{"mzxw6ytboi", "MZXW6YTBOI", "mZxW6yTbOi", "MzXw6YtBoI"} {
		if got, e := FromBase32(s); e != api.OK || string(got) != "foobar" {
			t.Errorf("FromBase32(%q): %q, %d", s, got, e)
		}
	}
	for _, s := range []string{"00ffabcdef", "00FFABCDEF", "00fFaBcDeF", "00FfAbCdEf"} {
		if got, e := FromHex(s); e != api.OK || string(got) != "\x00\xff\xab\xcd\xef" {
			t.Errorf("FromHex(%q): %x, %d", s, got, e)
		}
	}
	for s, want := range map[string]string{"Zm9v": "\x66\x6f\x6f", "zm9v": "\xce\x6f\x6f", "ZM9v": "\x64\xcf\x6f", "Zm9V": "\x66\x6f\x55", "aaaa": "\x69\xa6\x9a", "AAAA": "\x00\x00\x00"} {
		if got, e := FromBase64(s); e != api.OK || string(got) != want {
			t.Errorf("FromBase64(%q): %x, %d, not %x", s, got, e, want)
		}
	}
}

// P11.1, P11.3: letters of each number of bytes, held against another telling, and read back.
func TestSizes(t *testing.T) {
	for _, k := range all() {
		for many := range 300 {
			holdLaid(t, k, make([]byte, many))
			holdLaid(t, k, bytes.Repeat([]byte{0xff}, many))
			holdLaid(t, k, bytes.Repeat([]byte{0x55}, many))
			holdLaid(t, k, bytes.Repeat([]byte{0xaa}, many))
			holdLaid(t, k, some(uint64(many), many))
		}
		for _, many := range []int{4095, 8192, 16384, 100003} {
			holdLaid(t, k, some(7, many))
		}
	}
}

// P11.1, P11.3: letters of all bytes, one and two of them, as the words have them.
func TestShortBytes(t *testing.T) {
	for _, k := range all() {
		for c := range 256 {
			b := []byte{byte(c)}
			holdLaid(t, k, b)
			if got, want := k.lay(b), k.laid(b); got != want {
				t.Fatalf("%s of %x: %q, not %q", k.name, b, got, want)
			}
			for d := range 256 {
				holdLaid(t, k, []byte{byte(c), byte(d)})
			}
		}
	}
}

// P11.1: letters as the words have them, bit by bit.
func TestLaidByWords(t *testing.T) {
	for _, k := range all() {
		for many := range 60 {
			b := some(uint64(many)+100, many)
			if got, want := k.lay(b), k.laid(b); got != want {
				t.Errorf("%s of %x: %q, not %q", k.name, b, got, want)
			}
		}
	}
}

// P11.1: each bit of bytes says something, and of its own letter alone.
func TestEachBit(t *testing.T) {
	b := some(4, 20)
	for _, k := range all() {
		s := k.lay(b)
		for bit := range 8 * len(b) {
			other := slices.Clone(b)
			other[bit/8] ^= 0x80 >> (bit % 8)
			changed := k.lay(other)
			at := bit / k.wide
			if len(changed) != len(s) || changed[:at] != s[:at] || changed[at] == s[at] || changed[at+1:] != s[at+1:] {
				t.Errorf("%s, bit %d: %q of %q", k.name, bit, changed, s)
			}
		}
	}
}

// P11.2, P11.3: all texts of up to two bytes; those that are read are those that bytes have, in any case.
func TestShortTexts(t *testing.T) {
	for _, k := range all() {
		read := 0
		for c := range 256 {
			if holdRead(t, k, string([]byte{byte(c)})) {
				t.Errorf("%s: the one byte %x is read", k.name, c)
			}
			for d := range 256 {
				if holdRead(t, k, string([]byte{byte(c), byte(d)})) {
					read++
				}
			}
		}
		// Of Base32, 32 first letters, 26 of them in two cases, and as second ones A, E to Y (seven of them in
		// two cases) and 4.
		if want := map[string]int{"Base32": 58 * 15, "Base64": 0, "Hex": 22 * 22}[k.name]; read != want {
			t.Errorf("%s: %d of two bytes are read, not %d", k.name, read, want)
		}
	}
}

// P11.2, P11.3: all texts of up to so many bytes, made of a few.
func TestTextsOfFew(t *testing.T) {
	few := map[string]string{"Base32": "AQbqz67=1", "Base64": "AQgw9+/=-", "Hex": "09afAFg=0"}
	for _, k := range all() {
		texts, read := []string{""}, 0
		for range 6 {
			var longer []string
			for _, s := range texts {
				if holdRead(t, k, s) {
					read++
				}
				for i := range len(few[k.name]) {
					longer = append(longer, s+few[k.name][i:i+1])
				}
			}
			texts = longer
		}
		if read < 100 {
			t.Errorf("%s: only %d texts are read", k.name, read)
		}
	}
}

// P11.2, P11.3: any byte at any place of letters, and letters cut or with others behind them.
func TestEachByte(t *testing.T) {
	for _, k := range all() {
		for many := 1; many <= 11; many++ {
			s := k.lay(some(uint64(many)+30, many))
			for at := range len(s) {
				for c := range 256 {
					other := string([]byte{byte(c)})
					holdRead(t, k, s[:at]+other+s[at+1:])
					holdRead(t, k, s[:at]+other+s[at:])
				}
				holdRead(t, k, s[:at])
				holdRead(t, k, s[at:])
				holdRead(t, k, s[:at]+s[at+1:])
			}
			for c := range 256 {
				holdRead(t, k, s+string([]byte{byte(c)}))
				holdRead(t, k, s+string([]byte{byte(c), byte(c)}))
			}
			for more := range 9 {
				holdRead(t, k, s+strings.Repeat("=", more))
				holdRead(t, k, strings.TrimRight(s, "=")+strings.Repeat("=", more))
			}
		}
	}
}

// P11.2: of letters without bits set, the numbers of them that bytes have, and none between.
func TestNumbers(t *testing.T) {
	for _, k := range all() {
		has := map[int]bool{}
		for n := range 100 {
			has[len(k.laid(make([]byte, n)))] = true
		}
		for many := range 120 {
			s := strings.Repeat(k.letters[:1], many)
			got, e := k.read(s)
			want := has[many] && (k.row == 1 || many%k.row == 0)
			if (e == api.OK) != want || len(got) != 0 && !want {
				t.Errorf("From%s of %d letters: %d bytes, %d", k.name, many, len(got), e)
			}
			holdRead(t, k, s)
		}
	}
}

// P11.3: what is read in any case has just the letters of the kind's own case.
func TestCaseBack(t *testing.T) {
	for _, k := range all() {
		if !k.cases {
			continue
		}
		for many := range 100 {
			b := some(uint64(many)+60, many)
			s := k.lay(b)
			for seed := range uint64(20) {
				other := mixed(seed, s)
				got, e := k.read(other)
				if e != api.OK || !bytes.Equal(got, b) || k.lay(got) != s {
					t.Errorf("From%s(%q): %x, %d, not %x", k.name, other, got, e, b)
				}
			}
			if k.first(s) != s {
				t.Errorf("%s of %x: %q", k.name, b, s)
			}
		}
	}
}

// P11.4: how many letters so many bytes have.
func TestHowMany(t *testing.T) {
	for n := range 1000 {
		b := some(uint64(n), n)
		if got := len(Base32(b)); got != (8*n+4)/5 {
			t.Errorf("Base32 of %d bytes: %d letters", n, got)
		}
		if got := len(Base64(b)); got != 4*((n+2)/3) {
			t.Errorf("Base64 of %d bytes: %d letters", n, got)
		}
		if got := len(Hex(b)); got != 2*n {
			t.Errorf("Hex of %d bytes: %d letters", n, got)
		}
	}
}

// P11.4: letters of bytes behind whole rows of them stand behind those of the rows, and behind others do not.
func TestBehind(t *testing.T) {
	wholes := map[string]int{"Base32": 5, "Base64": 3, "Hex": 1}
	for _, k := range all() {
		for ahead := range 31 {
			for behind := 1; behind < 20; behind++ {
				front, back := some(uint64(ahead)+1, ahead), some(uint64(behind)+40, behind)
				both := k.lay(slices.Concat(front, back)) == k.lay(front)+k.lay(back)
				if whole := ahead%wholes[k.name] == 0; both != whole {
					t.Errorf("%s of %d bytes, and of %d behind: both one behind the other: %v", k.name, ahead, behind, both)
				}
			}
		}
	}
}

// P11.1, P11.2: nil is as empty as what is empty (R4).
func TestNothing(t *testing.T) {
	for _, k := range all() {
		if k.lay(nil) != "" || k.lay([]byte{}) != "" {
			t.Errorf("%s of nothing: %q, %q", k.name, k.lay(nil), k.lay([]byte{}))
		}
		if got, e := k.read(""); e != api.OK || len(got) != 0 {
			t.Errorf("From%s of nothing: %x, %d", k.name, got, e)
		}
	}
}

// P11.1, P11.2: what is handed in is only read, and what is answered is new (R3, R7).
func TestNotKept(t *testing.T) {
	for _, k := range all() {
		for many := 1; many < 70; many++ {
			of := some(2, 100)
			b := slices.Clone(of)
			s := k.lay(b[:many])
			if !bytes.Equal(b, of) {
				t.Errorf("%s changed %d bytes", k.name, many)
			}
			clear(b)
			if s != k.lay(of[:many]) {
				t.Errorf("%s of %d bytes hangs on what they become", k.name, many)
			}
			first, _ := k.read(s)
			second, _ := k.read(s)
			clear(first[:cap(first)])
			third, _ := k.read(s)
			if !bytes.Equal(second, of[:many]) || !bytes.Equal(third, of[:many]) {
				t.Errorf("From%s: what %d bytes are read as shares with what was read ahead", k.name, many)
			}
		}
	}
}

// P11.2: many letters, one of them wrong, wherever it stands.
func TestLong(t *testing.T) {
	b := some(9, 30000)
	for _, k := range all() {
		s := k.lay(b)
		for _, at := range []int{0, 1, len(s) / 2, len(s) - 2, len(s) - 1} {
			if got, e := k.read(s[:at] + "!" + s[at+1:]); e != api.ErrForm || len(got) != 0 {
				t.Errorf("From%s, wrong at %d: %d bytes, %d", k.name, at, len(got), e)
			}
		}
		for _, c := range []string{"=", "!", "\x00"} {
			if got, e := k.read(strings.Repeat(c, len(s))); e != api.ErrForm || len(got) != 0 {
				t.Errorf("From%s, all %q: %d bytes, %d", k.name, c, len(got), e)
			}
		}
	}
}
