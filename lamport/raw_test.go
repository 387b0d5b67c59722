package lamport_test

import (
	"bytes"
	"slices"
	"testing"

	"cachet/api"
	"cachet/lamport"
)

// rawOf are a signature's bytes, byte by byte where the document puts them.
func rawOf(s api.Sig) []byte {
	b := make([]byte, 4096)
	for place := range 64 {
		for i := range 32 {
			b[64*place+i] = s.Told[place][i]
			b[64*place+32+i] = s.Half[place][i]
		}
	}
	return b
}

// sigs are signatures of all kinds, such as no one signed too.
func sigs(t *testing.T) []api.Sig {
	t.Helper()
	l := []api.Sig{{}, marked(), {Told: marked().Told}, {Half: marked().Half}}
	for _, message := range [][]byte{nil, []byte("hi"), pattern(300)} {
		s, e := lamport.Sign(seedOf(5), 258, message)
		goes(t, "Sign", e)
		l = append(l, s)
	}
	return l
}

// P3.3: 4096 bytes, place by place Told and Half.
func TestRaw(t *testing.T) {
	for i, s := range sigs(t) {
		if b := lamport.Raw(s); !bytes.Equal(b, rawOf(s)) {
			t.Errorf("signature %d: %d bytes, or others", i, len(b))
		}
	}
}

// What holds everywhere: Raw's bytes are new each time.
func TestRawIsApart(t *testing.T) {
	s := marked()
	b, other := lamport.Raw(s), lamport.Raw(s)
	clear(b[:cap(b)])
	if !bytes.Equal(other, rawOf(s)) || s != marked() {
		t.Error("another one's bytes were changed")
	}
}

// P3.3: each byte stands in one digest only.
func TestReadEveryByte(t *testing.T) {
	b := rawOf(marked())
	for at := range b {
		other := slices.Clone(b)
		other[at] ^= 1 << (at % 8)
		if s, is := lamport.Read(other); !is || s != flipped(marked(), at, 1<<(at%8)) {
			t.Errorf("byte %d: %v, or another signature", at, is)
		}
	}
}

// P3.3: bytes that are not 4096, whatever they are.
func TestReadRefuses(t *testing.T) {
	if s, is := lamport.Read(nil); is || s != (api.Sig{}) {
		t.Error("nil was read")
	}
	long := slices.Concat(rawOf(marked()), rawOf(marked()), pattern(100))
	for _, n := range []int{0, 1, 10, 31, 32, 63, 64, 128, 2048, 4032, 4064, 4094, 4095, 4097, 4098, 4128, 4160, 8192, 8292} {
		for _, b := range [][]byte{make([]byte, n), long[:n], slices.Clone(long[:n])} {
			if s, is := lamport.Read(b); is || s != (api.Sig{}) {
				t.Errorf("%d bytes were read", n)
			}
		}
	}
	if s, is := lamport.Read(make([]byte, 1<<20)); is || s != (api.Sig{}) {
		t.Error("2^20 bytes were read")
	}
}

// What holds everywhere: the bytes stay as they are, spare room included, and are not kept.
func TestReadStays(t *testing.T) {
	whole := append(rawOf(marked()), pattern(100)...)
	was := slices.Clone(whole)
	s, is := lamport.Read(whole[:4096])
	if !is || !bytes.Equal(whole, was) {
		t.Error("not read, or bytes were changed")
	}
	clear(whole)
	if s != marked() {
		t.Error("the bytes were kept")
	}
}

// P3.4: Read of Raw is the signature.
func TestReadOfRaw(t *testing.T) {
	for i, s := range sigs(t) {
		if back, is := lamport.Read(lamport.Raw(s)); !is || back != s {
			t.Errorf("signature %d: %v, or another one", i, is)
		}
	}
}

// P3.4: Raw of Read are the bytes, whatever they are.
func TestRawOfRead(t *testing.T) {
	for _, b := range [][]byte{make([]byte, 4096), bytes.Repeat([]byte{255}, 4096), pattern(4096), rawOf(marked())} {
		s, is := lamport.Read(b)
		if !is || !bytes.Equal(lamport.Raw(s), b) {
			t.Errorf("%x ..: %v, or others", b[:8], is)
		}
	}
}

// P3.4: a signature that went through its bytes is verified as it was.
func TestReadIsVerified(t *testing.T) {
	s, key := sign(t, seedOf(0), 3, []byte("hi"))
	back, is := lamport.Read(lamport.Raw(s))
	if !is || !lamport.Verify(key, []byte("hi"), back) {
		t.Error("not verified")
	}
}

// P3.3: 128 digests in the order of Raw, each with its number.
func TestParts(t *testing.T) {
	for i, s := range sigs(t) {
		want := rawOf(s)
		count := 0
		for n, d := range lamport.Parts(s) {
			if n != count {
				t.Fatalf("signature %d: number %d, not %d", i, n, count)
			}
			if !bytes.Equal(d[:], want[32*n:32*n+32]) {
				t.Errorf("signature %d, number %d: another digest", i, n)
			}
			count++
		}
		if count != 128 {
			t.Errorf("signature %d: %d digests", i, count)
		}
	}
}

// P3.3: parts are left at once, in the midst, at the last one; then nothing more is told, and they begin anew.
func TestPartsAreLeft(t *testing.T) {
	parts := lamport.Parts(marked())
	for last := range 128 {
		told := 0
		parts(func(n int, _ api.Digest) bool {
			if n != told {
				t.Errorf("left at %d: number %d, not %d", last, n, told)
			}
			told++
			return n < last
		})
		if told != last+1 {
			t.Errorf("left at %d: %d were told", last, told)
		}
	}
}

// P3.3: they may be gone over again, whole, and within one another.
func TestPartsAgain(t *testing.T) {
	parts := lamport.Parts(marked())
	for range parts {
		break
	}
	for range 2 {
		var all []byte
		for _, d := range parts {
			all = append(all, d[:]...)
		}
		if !bytes.Equal(all, rawOf(marked())) {
			t.Error("gone over again: others")
		}
	}
	count := 0
	for n := range parts {
		for m := range parts {
			if m > n {
				break
			}
			count++
		}
	}
	if count != 128*129/2 {
		t.Errorf("within one another: %d", count)
	}
}

// What holds everywhere: what a loop does with a digest, or the caller with the signature, does not change what is told.
func TestPartsAreApart(t *testing.T) {
	s := marked()
	parts := lamport.Parts(s)
	s = api.Sig{}
	for range 2 {
		for n, d := range parts {
			if !bytes.Equal(d[:], rawOf(marked())[32*n:32*n+32]) {
				t.Fatalf("number %d: another digest", n)
			}
			clear(d[:])
		}
	}
	if s != (api.Sig{}) {
		t.Error("the signature was changed")
	}
}
