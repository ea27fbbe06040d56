package frame

import (
	"bytes"
	"encoding/binary"
	"hash/crc32"
	"math"
	"testing"

	"postrider/api"
)

// check is the check told bit by bit, as the chapter has it.
func check(b []byte) uint32 {
	register := uint32(0xffffffff)
	for _, x := range b {
		register ^= uint32(x)
		for range 8 {
			out := register & 1
			register >>= 1
			if out == 1 {
				register ^= 0xedb88320
			}
		}
	}
	return register ^ 0xffffffff
}

// summed is a frame's sum, with the size that is told.
func summed(ahead, number uint32, size int, payload []byte) uint32 {
	var b []byte
	b = binary.BigEndian.AppendUint32(b, ahead)
	b = binary.BigEndian.AppendUint32(b, number)
	b = binary.BigEndian.AppendUint16(b, uint16(size))
	return check(append(b, payload...))
}

// formed is a frame's form, of whatever size and sum.
func formed(size int, number, sum uint32, payload []byte) []byte {
	var b []byte
	b = binary.BigEndian.AppendUint16(b, uint16(size))
	b = binary.BigEndian.AppendUint32(b, number)
	b = binary.BigEndian.AppendUint32(b, sum)
	return append(b, payload...)
}

// bytesOf answers that many bytes, other ones for each seed.
func bytesOf(seed uint64, many int) []byte {
	b := make([]byte, many)
	for i := range b {
		seed = seed*6364136223846793005 + 1442695040888963407
		b[i] = byte(seed >> 33)
	}
	return b
}

// pair is a check ahead and a number.
type pair struct{ ahead, number uint32 }

var pairs = []pair{
	{0, 1}, {0, 0}, {1, 0}, {5, 3}, {0x01020304, 0x05060708},
	{math.MaxUint32, math.MaxUint32}, {0x80000000, 0x80000000}, {0xfffefdfc, 2},
}

// payloads answers payloads of sizes at the edges, and between.
func payloads() [][]byte {
	all := [][]byte{nil, {}, {0}, {0, 0, 0, 0}, {255}, []byte("a"), []byte("hello")}
	for k, many := range []int{9, 10, 11, 255, 256, 257, 4095, api.MaxPayload - 1, api.MaxPayload} {
		all = append(all, bytesOf(uint64(k), many))
	}
	return all
}

// sealed answers a frame that may be.
func sealed(t *testing.T, p pair, payload []byte) []byte {
	t.Helper()
	b, e := Seal(p.ahead, p.number, payload)
	if e != api.OK {
		t.Fatalf("Seal(%x, %x, %d bytes): %d", p.ahead, p.number, len(payload), e)
	}
	return b
}

// refused holds what Open tells against an error, and nothing beside it.
func refused(t *testing.T, what string, p pair, b []byte, want api.Errno) {
	t.Helper()
	payload, many, sum, e := Open(p.ahead, p.number, b)
	if e != want || len(payload) != 0 || many != 0 || sum != 0 {
		t.Errorf("%s: %d bytes, %d, %x, %d, not nothing and %d", what, len(payload), many, sum, e, want)
	}
}

// opened holds what Open tells against a frame that is there.
func opened(t *testing.T, what string, p pair, b, payload []byte) {
	t.Helper()
	got, many, sum, e := Open(p.ahead, p.number, b)
	if e != api.OK || !bytes.Equal(got, payload) || many != 10+len(payload) ||
		sum != summed(p.ahead, p.number, len(payload), payload) {
		t.Errorf("%s: %d bytes, %d, %x, %d", what, len(got), many, sum, e)
	}
}

// P2.1: checks that are known of old.
func TestCrcKnown(t *testing.T) {
	for _, x := range []struct {
		b    string
		want uint32
	}{
		{"", 0},
		{"\x00", 0xd202ef8d},
		{"\x00\x00\x00\x00", 0x2144df1c},
		{"\xff\xff\xff\xff", 0xffffffff},
		{"a", 0xe8b7be43},
		{"123456789", 0xcbf43926},
		{"The quick brown fox jumps over the lazy dog", 0x414fa339},
	} {
		if got := Crc([]byte(x.b)); got != x.want {
			t.Errorf("Crc(%q): %x, not %x", x.b, got, x.want)
		}
	}
	if Crc(nil) != 0 {
		t.Error("the check of nothing:", Crc(nil))
	}
}

// P2.1: the check of each byte, and of many, is as it is told bit by bit; a
// check knows no bound of size.
func TestCrcAsTold(t *testing.T) {
	for i := range 256 {
		for _, b := range [][]byte{{byte(i)}, {7, byte(i)}, {byte(i), 0}} {
			if got := Crc(b); got != check(b) || got != crc32.ChecksumIEEE(b) {
				t.Errorf("Crc(%v): %x", b, got)
			}
		}
	}
	for many := range 300 {
		if b := bytesOf(uint64(many), many); Crc(b) != check(b) {
			t.Errorf("Crc of %d bytes: %x", many, Crc(b))
		}
	}
	for _, many := range []int{api.MaxPayload, api.MaxPayload + 1, 1 << 16, 1<<20 + 3} {
		if b := bytesOf(9, many); Crc(b) != crc32.ChecksumIEEE(b) {
			t.Errorf("Crc of %d bytes: %x", many, Crc(b))
		}
	}
}

// P2.1: a sum is the check of the check ahead, the number, the size, the payload.
func TestSum(t *testing.T) {
	for _, p := range pairs {
		for _, payload := range payloads() {
			want := summed(p.ahead, p.number, len(payload), payload)
			if got := Sum(p.ahead, p.number, payload); got != want {
				t.Errorf("Sum(%x, %x, %d bytes): %x, not %x", p.ahead, p.number, len(payload), got, want)
			}
		}
	}
	told := append([]byte{1, 2, 3, 4, 5, 6, 7, 8, 0, 3}, "abc"...)
	if got := Sum(0x01020304, 0x05060708, []byte("abc")); got != crc32.ChecksumIEEE(told) {
		t.Errorf("told byte by byte: %x", got)
	}
}

// P2.1, P2.2: a payload that is too long has sum 0, and no form.
func TestTooLong(t *testing.T) {
	for _, many := range []int{api.MaxPayload + 1, api.MaxPayload + 2, 1<<16 - 1, 1 << 16, 1<<16 + 1, 1 << 20} {
		payload := bytesOf(3, many)
		for _, p := range pairs {
			if sum := Sum(p.ahead, p.number, payload); sum != 0 {
				t.Errorf("Sum of %d bytes: %x", many, sum)
			}
			if b, e := Seal(p.ahead, p.number, payload); len(b) != 0 || e != api.ErrLong {
				t.Errorf("Seal of %d bytes: %d bytes, %d", many, len(b), e)
			}
		}
	}
}

// P2.2: the chapter's example, and forms written out by hand.
func TestSealWrittenOut(t *testing.T) {
	for _, x := range []struct {
		p       pair
		payload string
		want    []byte
	}{
		// The sum is that of 00 00 00 00, 00 00 00 01, 00 01, 61.
		{pair{0, 1}, "a", []byte{0, 1, 0, 0, 0, 1, 0xf0, 0x95, 0xb6, 0x06, 0x61}},
		{pair{0, 1}, "", []byte{0, 0, 0, 0, 0, 1, 0xe2, 0x48, 0x02, 0x41}},
	} {
		got := sealed(t, x.p, []byte(x.payload))
		if !bytes.Equal(got, x.want) {
			t.Errorf("Seal(%v, %q): % x, not % x", x.p, x.payload, got, x.want)
		}
	}
}

// P2.2: a form is the size, the number, the sum, the payload.
func TestSeal(t *testing.T) {
	for _, p := range pairs {
		for _, payload := range payloads() {
			want := formed(len(payload), p.number, summed(p.ahead, p.number, len(payload), payload), payload)
			if got := sealed(t, p, payload); !bytes.Equal(got, want) {
				t.Errorf("Seal(%x, %x, %d bytes) is another form", p.ahead, p.number, len(payload))
			}
		}
	}
	if Head != 10 {
		t.Error("Head:", Head)
	}
}

// P2.3: what is wrong with a frame, and which of several faults is told.
func TestOpenRefused(t *testing.T) {
	const most = api.MaxPayload
	p := pair{5, 3}
	right := summed(5, 3, 5, []byte("hello"))
	long := bytesOf(4, 1<<16)
	for _, x := range []struct {
		what string
		b    []byte
		want api.Errno
	}{
		{"nothing", nil, api.ErrShort},
		{"one byte", []byte{0}, api.ErrShort},
		{"nine bytes", make([]byte, 9), api.ErrShort},
		{"nine bytes, of a payload too long", bytes.Repeat([]byte{255}, 9), api.ErrShort},
		{"ten bytes, of a payload too long", bytes.Repeat([]byte{255}, 10), api.ErrLong},
		{"a payload too long by one, none there", formed(most+1, 3, 0, nil), api.ErrLong},
		{"a payload too long by one, all there", formed(most+1, 3, summed(5, 3, most+1, long[:most+1]), long[:most+1]), api.ErrLong},
		{"a payload too long, and sum 0", formed(most+1, 3, 0, long[:most+1]), api.ErrLong},
		{"a payload too long, and another number", formed(1<<16-1, 4, 0, long), api.ErrLong},
		{"the longest payload, one byte short", formed(most, 3, summed(5, 3, most, long[:most]), long[:most-1]), api.ErrShort},
		{"no payload there", formed(5, 3, right, nil), api.ErrShort},
		{"payload one byte short", formed(5, 3, right, []byte("hell")), api.ErrShort},
		{"payload short, another number", formed(5, 4, right, []byte("hell")), api.ErrShort},
		{"payload short, another sum", formed(5, 3, right+1, []byte("hell")), api.ErrShort},
		{"the sum of another number", formed(5, 3, summed(5, 4, 5, []byte("hello")), []byte("hello")), api.ErrCheck},
		{"another number, with its sum", formed(5, 4, summed(5, 4, 5, []byte("hello")), []byte("hello")), api.ErrCheck},
		{"another number, the sum of the one asked for", formed(5, 4, right, []byte("hello")), api.ErrCheck},
		{"another check ahead", formed(5, 3, summed(6, 3, 5, []byte("hello")), []byte("hello")), api.ErrCheck},
		{"another size", formed(4, 3, right, []byte("hello")), api.ErrCheck},
		{"the sum of another size", formed(5, 3, summed(5, 3, 4, []byte("hello")), []byte("hello")), api.ErrCheck},
		{"another payload", formed(5, 3, right, []byte("hellp")), api.ErrCheck},
		{"another sum", formed(5, 3, right+1, []byte("hello")), api.ErrCheck},
		{"sum 0", formed(5, 3, 0, []byte("hello")), api.ErrCheck},
		{"bytes 0", make([]byte, 99), api.ErrCheck},
	} {
		refused(t, x.what, p, x.b, x.want)
	}
}

// P2.3: bytes 0 are no frame, of whatever number from 1 on: a log leans on it.
func TestOpenZeros(t *testing.T) {
	for number := uint32(1); number < 200; number++ {
		refused(t, "bytes 0", pair{0, number}, make([]byte, 64), api.ErrCheck)
	}
}

// P2.3, P2.4: open of sealed, with whatever behind, is the payload and its sum.
func TestThereAndBack(t *testing.T) {
	for _, p := range pairs {
		for _, payload := range payloads() {
			b := sealed(t, p, payload)
			opened(t, "alone", p, b, payload)
			for _, behind := range [][]byte{{0}, {255}, b, bytesOf(8, 40), make([]byte, 1<<15)} {
				opened(t, "with more behind", p, append(bytes.Clone(b), behind...), payload)
			}
		}
	}
}

// P2.4: each sum is what the next frame carries.
func TestChain(t *testing.T) {
	var all []byte
	ahead := uint32(0)
	for k, payload := range payloads() {
		number := uint32(k + 1)
		all = append(all, sealed(t, pair{ahead, number}, payload)...)
		ahead = Sum(ahead, number, payload)
	}
	ahead = 0
	for k, payload := range payloads() {
		got, many, sum, e := Open(ahead, uint32(k+1), all)
		if e != api.OK || !bytes.Equal(got, payload) {
			t.Fatalf("frame %d: %d bytes, %d", k+1, len(got), e)
		}
		all, ahead = all[many:], sum
	}
	if len(all) != 0 {
		t.Error("behind all frames:", len(all))
	}
}

// P2.4: a frame that is cut short, wherever.
func TestCutShort(t *testing.T) {
	for _, p := range pairs {
		for _, payload := range [][]byte{nil, []byte("a"), []byte("hello"), bytesOf(1, 300)} {
			b := sealed(t, p, payload)
			for many := range len(b) {
				refused(t, "cut short", p, b[:many], api.ErrShort)
				refused(t, "cut short, no more memory", p, bytes.Clone(b[:many]), api.ErrShort)
			}
		}
	}
	b := sealed(t, pairs[0], bytesOf(2, api.MaxPayload))
	for _, many := range []int{0, 9, 10, 11, len(b) - 1} {
		refused(t, "the longest one, cut short", pairs[0], b[:many], api.ErrShort)
	}
}

// P2.5: whatever Open tells, sealed again, is the bytes it was read of.
func TestSealedAgain(t *testing.T) {
	found := 0
	for seed := range uint64(4000) {
		b := bytesOf(seed, 16+int(seed%5))
		size := int(seed % 9)
		p := pair{uint32(seed % 3), uint32(seed % 4)}
		// Now and then, all is as a frame has it, or but for one part.
		b[0], b[1] = 0, byte(size)
		if seed%7 != 0 {
			binary.BigEndian.PutUint32(b[2:], p.number)
		}
		if size <= len(b)-10 && seed%11 != 0 {
			binary.BigEndian.PutUint32(b[6:], summed(p.ahead, p.number, size, b[10:10+size]))
		}
		payload, many, sum, e := Open(p.ahead, p.number, b)
		if e != api.OK {
			continue
		}
		found++
		if again := sealed(t, p, payload); !bytes.Equal(again, b[:many]) || sum != binary.BigEndian.Uint32(again[6:]) {
			t.Errorf("% x: sealed again % x", b[:many], again)
		}
	}
	if found < 1000 {
		t.Error("too few frames:", found)
	}
}

// P2.6: one bit turned, behind the size.
func TestBitTurned(t *testing.T) {
	for _, p := range pairs {
		for _, payload := range [][]byte{nil, []byte("a"), []byte("hello"), bytesOf(6, 100)} {
			b := sealed(t, p, payload)
			for bit := 16; bit < 8*len(b); bit++ {
				b[bit/8] ^= 1 << (bit % 8)
				refused(t, "a bit turned", p, b, api.ErrCheck)
				b[bit/8] ^= 1 << (bit % 8)
			}
			opened(t, "all bits turned back", p, b, payload)
		}
	}
	b := sealed(t, pairs[0], bytesOf(7, api.MaxPayload))
	for _, at := range []int{2, 9, 10, len(b) / 2, len(b) - 1} {
		b[at] ^= 1
		refused(t, "a bit of the longest one turned", pairs[0], b, api.ErrCheck)
		b[at] ^= 1
	}
}

// P2.6: another number, or another check ahead, asked for.
func TestAnotherAsked(t *testing.T) {
	for _, p := range pairs {
		for _, payload := range [][]byte{nil, []byte("hello"), bytesOf(6, 100)} {
			b := sealed(t, p, payload)
			for k := range 32 {
				for _, other := range []uint32{1 << k, math.MaxUint32 << k, 0x9e3779b9 >> k} {
					if other == 0 {
						continue
					}
					refused(t, "another number", pair{p.ahead, p.number ^ other}, b, api.ErrCheck)
					refused(t, "another check ahead", pair{p.ahead ^ other, p.number}, b, api.ErrCheck)
				}
			}
		}
	}
}

// R3: what is handed in is only read, and not kept; what is answered is new.
func TestMemory(t *testing.T) {
	room := append(make([]byte, 0, 64), "hello"...)
	b := sealed(t, pair{0, 1}, room)
	room[0] = 'X'
	opened(t, "the payload changed behind Seal", pair{0, 1}, b, []byte("hello"))
	room[0] = 'h'
	Sum(0, 1, room)
	Crc(room)
	if string(room) != "hello" || !bytes.Equal(room[5:64], make([]byte, 59)) {
		t.Errorf("handed in, and changed: %q", room[:64])
	}

	was := append(bytes.Clone(b), "behind"...)
	given := bytes.Clone(was)
	payload, _, _, _ := Open(0, 1, given)
	payload[0] = 'X'
	_ = append(payload, "more"...)
	if !bytes.Equal(given, was) {
		t.Errorf("the bytes that a frame was read of: %q", given)
	}
	payload, _, _, _ = Open(0, 1, given)
	clear(given)
	if string(payload) != "hello" {
		t.Errorf("the payload, when the frame is cleared: %q", payload)
	}
}
