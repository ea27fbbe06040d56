package hash

import (
	"bytes"
	"crypto/hmac"
	"crypto/sha1"
	"encoding/binary"
	"encoding/hex"
	"math/rand/v2"
	"slices"
	"strings"
	"testing"
)

// hmacTold is the HMAC of a key and bytes, as another telling of it has it.
func hmacTold(key, b []byte) [20]byte {
	h := hmac.New(sha1.New, key)
	h.Write(b)
	return [20]byte(h.Sum(nil))
}

// hmacOfWords is the HMAC as its words say it of Sha1.
func hmacOfWords(key, b []byte) [20]byte {
	if len(key) > 64 {
		sum := Sha1(key)
		key = sum[:]
	}
	inner, outer := make([]byte, 64), make([]byte, 64)
	copy(inner, key)
	copy(outer, key)
	for i := range 64 {
		inner[i] ^= 0x36
		outer[i] ^= 0x5c
	}
	sum := Sha1(append(inner, b...))
	return Sha1(append(outer, sum[:]...))
}

// some answers so many bytes that hang on a seed alone.
func some(seed uint64, many int) []byte {
	from := rand.New(rand.NewPCG(seed, 10))
	b := make([]byte, many)
	for i := range b {
		b[i] = byte(from.Uint32())
	}
	return b
}

// holdSha1 holds the hash of bytes against the other telling.
func holdSha1(t *testing.T, b []byte) {
	t.Helper()
	if got, want := Sha1(b), sha1.Sum(b); got != want {
		t.Errorf("Sha1 of %d bytes: %x, not %x", len(b), got, want)
	}
}

// holdHmac holds the HMAC of a key and bytes against the other telling.
func holdHmac(t *testing.T, key, b []byte) {
	t.Helper()
	if got, want := Hmac(key, b), hmacTold(key, b); got != want {
		t.Errorf("Hmac of %d and %d bytes: %x, not %x", len(key), len(b), got, want)
	}
}

// P10.1: hashes that the standard tells, and the chapter.
func TestSha1Known(t *testing.T) {
	for _, k := range []struct{ b, sum string }{
		{"", "da39a3ee5e6b4b0d3255bfef95601890afd80709"},
		{"abc", "a9993e364706816aba3e25717850c26c9cd0d89d"},
		{"abcdbcdecdefdefgefghfghighijhijkijkljklmklmnlmnomnopnopq", "84983e441c3bd26ebaae4aa1f95129e5e54670f1"},
		{"abcdefghbcdefghicdefghijdefghijkefghijklfghijklmghijklmnhijklmnoijklmnopjklmnopqklmnopqrlmnopqrsmnopqrstnopqrstu", "a49b2446a02c645bf419f995b67091253a04a259"},
		{strings.Repeat("a", 1000000), "34aa973cd4c4daa4f61eeb2bdbad27316534016f"},
		{strings.Repeat("01234567", 80), "dea356a2cddd90c7a7ecedc5ebb563934f460452"},
	} {
		if got := Sha1([]byte(k.b)); hex.EncodeToString(got[:]) != k.sum {
			t.Errorf("Sha1(%.20q): %x, not %s", k.b, got, k.sum)
		}
	}
}

// P10.1: HMACs that RFC 2202 tells, and the chapter.
func TestHmacKnown(t *testing.T) {
	counted := make([]byte, 25)
	for i := range counted {
		counted[i] = byte(i + 1)
	}
	for _, k := range []struct{ key, b, sum string }{
		{strings.Repeat("\x0b", 20), "Hi There", "b617318655057264e28bc0b6fb378c8ef146be00"},
		{"Jefe", "what do ya want for nothing?", "effcdf6ae5eb2fa2d27416d5f184df9c259a7c79"},
		{strings.Repeat("\xaa", 20), strings.Repeat("\xdd", 50), "125d7342b9ac11cd91a39af48aa17b4f63f175d3"},
		{string(counted), strings.Repeat("\xcd", 50), "4c9007f4026250c6bc8414f9bf50c86c2d7235da"},
		{strings.Repeat("\x0c", 20), "Test With Truncation", "4c1a03424b55e07fe7f27be1d58bb9324a9a5a04"},
		{strings.Repeat("\xaa", 80), "Test Using Larger Than Block-Size Key - Hash Key First", "aa4ae5e15272d00e95705637ce8a3b55ed402112"},
		{strings.Repeat("\xaa", 80), "Test Using Larger Than Block-Size Key and Larger Than One Block-Size Data", "e8e99d0f45237d786d6bbaa7965c7808bbff1a91"},
		{"", "", "fbdb1d1b18aa6c08324b7d64b71fb76370690e1d"},
	} {
		if got := Hmac([]byte(k.key), []byte(k.b)); hex.EncodeToString(got[:]) != k.sum {
			t.Errorf("Hmac(%q, %q): %x, not %s", k.key, k.b, got, k.sum)
		}
	}
}

// P10.1: each number of bytes, over the edges of several blocks.
func TestSha1Sizes(t *testing.T) {
	for many := range 400 {
		holdSha1(t, make([]byte, many))
		holdSha1(t, bytes.Repeat([]byte{0xff}, many))
		holdSha1(t, some(uint64(many), many))
	}
	for _, many := range []int{4095, 4096, 8192, 65536, 100003} {
		holdSha1(t, some(7, many))
	}
}

// P10.1: each byte at each place of a block, and behind it, says something.
func TestSha1EachByte(t *testing.T) {
	b := some(3, 70)
	seen := map[[20]byte]bool{Sha1(b): true}
	for place := range b {
		for c := range 256 {
			other := slices.Clone(b)
			other[place] = byte(c)
			holdSha1(t, other)
			seen[Sha1(other)] = true
		}
	}
	if len(seen) != 70*255+1 {
		t.Errorf("%d hashes", len(seen))
	}
}

// P10.1: how many bits there were is told in eight bytes, where four are too few also.
func TestSizeTold(t *testing.T) {
	for _, many := range []uint64{0, 1, 55, 56, 63, 1<<29 - 1, 1 << 29, 1<<29 + 64, 1<<31 - 1, 1<<31 + 63} {
		rest := some(many, int(many%64))
		end := ending(rest, many)
		want := append(slices.Clone(rest), 0x80)
		for len(want)%64 != 56 {
			want = append(want, 0)
		}
		want = binary.BigEndian.AppendUint64(want, many*8)
		if !bytes.Equal(end, want) {
			t.Errorf("of %d: %x, not %x", many, end, want)
		}
	}
}

// P10.1: each number of a key's bytes, over the edge of a block, with bytes of many sizes.
func TestHmacSizes(t *testing.T) {
	for many := range 200 {
		for _, behind := range []int{0, 1, 20, 55, 56, 63, 64, 65, 119, 120, 128, 300} {
			holdHmac(t, some(uint64(many), many), some(uint64(behind+1000), behind))
		}
	}
	for many := range 200 {
		holdHmac(t, []byte("key"), some(uint64(many), many))
	}
	holdHmac(t, some(1, 8192), some(2, 16384))
}

// P10.1: each byte of a key, and of bytes, says something.
func TestHmacEachByte(t *testing.T) {
	key, b := some(5, 64), some(6, 10)
	for c := range 256 {
		for place := range key {
			other := slices.Clone(key)
			other[place] = byte(c)
			holdHmac(t, other, b)
		}
		for place := range b {
			other := slices.Clone(b)
			other[place] = byte(c)
			holdHmac(t, key, other)
		}
	}
}

// P10.1: what is handed in stays as it is, and so does what stands behind it.
func TestHandedInStays(t *testing.T) {
	for many := range 200 {
		of, with := some(1, 300), some(2, 300)
		key, b := slices.Clone(of), slices.Clone(with)
		Sha1(b[:many])
		Hmac(key[:many], b[:many])
		Hmac(key[:64], b[:many])
		Hmac(b[:many], b[:many])
		if !bytes.Equal(key, of) || !bytes.Equal(b, with) {
			t.Errorf("changed, of %d bytes", many)
		}
	}
}

// P10.1: nothing is kept from call to call, and nil is as empty as what is empty (R4, R7).
func TestNothingKept(t *testing.T) {
	first, second := Sha1(nil), Hmac(nil, nil)
	for many := range 130 {
		Sha1(some(1, many))
		Hmac(some(2, many), some(3, many))
		if Sha1([]byte{}) != first || Hmac([]byte{}, []byte{}) != second || Sha1(nil) != first || Hmac(nil, nil) != second {
			t.Errorf("another hash of nothing, behind %d bytes", many)
		}
	}
	if Hmac(nil, []byte("b")) != Hmac([]byte{}, []byte("b")) || Hmac([]byte("k"), nil) != Hmac([]byte("k"), []byte{}) {
		t.Error("nil is another than empty")
	}
}

// P10.2: a key, and that key with bytes 0 behind, make the same HMAC up to 64 bytes, and not beyond.
func TestKeyFilled(t *testing.T) {
	b := []byte("bytes")
	for many := range 65 {
		key := bytes.Repeat([]byte{7}, many)
		want := Hmac(key, b)
		for len(key) < 64 {
			key = append(key, 0)
			if Hmac(key, b) != want {
				t.Errorf("a key of %d bytes, filled up to %d, makes another HMAC", many, len(key))
			}
		}
		if Hmac(append(key, 0), b) == want {
			t.Errorf("a key of %d bytes, filled up beyond a block, makes the same HMAC", many)
		}
	}
}

// P10.2: a key of more than 64 bytes, and its SHA-1, make the same HMAC; one of 64 is its own.
func TestKeyLong(t *testing.T) {
	b := []byte("bytes")
	for many := range 300 {
		key := some(uint64(many), many)
		sum := Sha1(key)
		if same := Hmac(key, b) == Hmac(sum[:], b); same != (many > 64) {
			t.Errorf("a key of %d bytes, and its SHA-1, make the same HMAC: %v", many, same)
		}
	}
}

// P10.3: HMAC is what its words say of SHA-1, for any key.
func TestHmacOfWords(t *testing.T) {
	from := rand.New(rand.NewPCG(10, 3))
	for many := range 200 {
		key, b := some(uint64(many)+500, many), some(uint64(many)+900, from.IntN(300))
		if got, want := Hmac(key, b), hmacOfWords(key, b); got != want {
			t.Errorf("Hmac of %d and %d bytes: %x, not %x", len(key), len(b), got, want)
		}
	}
}
