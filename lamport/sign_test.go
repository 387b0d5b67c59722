package lamport_test

import (
	"slices"
	"testing"

	"cachet/api"
	"cachet/lamport"
)

// twins are two messages with the same bits: their digests are alike in the first eight bytes, and in no more.
func twins() ([]byte, []byte) {
	return []byte("\x45\x91\x80\xd6\xa8\x55\x1b\x63"), []byte("\x75\xfd\x08\xf5\x24\x7b\xd8\xbd")
}

// sign makes a signature and its leaf's key, both of which must go.
func sign(t *testing.T, seed api.Digest, leaf int, message []byte) (api.Sig, api.Digest) {
	t.Helper()
	s, e := lamport.Sign(seed, leaf, message)
	goes(t, "Sign", e)
	key, e := lamport.Key(seed, leaf)
	goes(t, "Key", e)
	return s, key
}

// P3.2: signatures that were worked out elsewhere, by the digest of their 4096 bytes.
func TestSignKnown(t *testing.T) {
	rows := []struct {
		leaf          int
		message, want string
	}{
		{258, "hi", "298d23567fb188da282788ee37e3f5e2835d3e64f19c3145d7ed7dae309375d1"},
		{65535, "", "500d428b56ced9652f9a278c153edf39c7199c814e343e8d31aed4b79aaaa30a"},
	}
	for _, row := range rows {
		s, _ := sign(t, seedOf(0), row.leaf, []byte(row.message))
		if d := digestOf(lamport.Raw(s)); d != parse(t, row.want) {
			t.Errorf("leaf %d, %q: %x", row.leaf, row.message, d)
		}
	}
}

// P3.2: at each place the secret of the message's bit, and the half of the other one.
func TestSign(t *testing.T) {
	for _, seed := range []api.Digest{{}, seedOf(0), seedOf(200)} {
		for _, leaf := range someLeaves() {
			for _, message := range messages() {
				s, e := lamport.Sign(seed, leaf, message)
				if s != sigOf(seed, leaf, message) || e != api.OK {
					t.Fatalf("leaf %d, %x: another signature, %v", leaf, message, e)
				}
			}
		}
	}
}

// P3.2: what is told are Secret's secrets; the other bit's is not told.
func TestSignTellsOneSecret(t *testing.T) {
	message := []byte("hi")
	s, _ := sign(t, seedOf(0), 258, message)
	for place, bit := range bitsOf(message) {
		told, e := lamport.Secret(seedOf(0), 258, place, bit)
		goes(t, "Secret", e)
		other, e := lamport.Secret(seedOf(0), 258, place, 1-bit)
		goes(t, "Secret", e)
		if s.Told[place] != told || s.Half[place] != halfOf(other) {
			t.Errorf("place %d: not the secret and the other half", place)
		}
	}
}

// P3.2: a leaf that is none signs nothing.
func TestSignRefuses(t *testing.T) {
	for _, leaf := range noLeaves() {
		for _, message := range [][]byte{nil, []byte("hi")} {
			if s, e := lamport.Sign(seedOf(0), leaf, message); s != (api.Sig{}) || e != api.ErrRange {
				t.Errorf("leaf %d: %v", leaf, e)
			}
		}
	}
}

// P3.2: of whatever signature and message, Of is the key that it fits, and Verify asks for just that one.
func TestOfWhateverSignature(t *testing.T) {
	signed, _ := sign(t, seedOf(0), 258, []byte("hi"))
	turned := api.Sig{Told: signed.Half, Half: signed.Told}
	for i, s := range []api.Sig{{}, marked(), signed, turned} {
		for _, message := range messages() {
			key := lamport.Of(message, s)
			if key != fitted(message, s) {
				t.Errorf("signature %d, %x: another key", i, message)
			}
			if !lamport.Verify(key, message, s) {
				t.Errorf("signature %d, %x: not verified by the key that it fits", i, message)
			}
			for at := range key {
				other := key
				other[at] ^= 1 << (at % 8)
				if lamport.Verify(other, message, s) {
					t.Errorf("signature %d, %x: verified by a key whose byte %d is another", i, message, at)
				}
			}
		}
	}
}

// P3.2: a key of noughts is no key that all signatures fit.
func TestVerifyNoughts(t *testing.T) {
	s, _ := sign(t, seedOf(0), 3, []byte("hi"))
	for _, sig := range []api.Sig{{}, s, marked()} {
		if lamport.Verify(api.Digest{}, []byte("hi"), sig) || lamport.Verify(api.Digest{}, nil, sig) {
			t.Error("verified by a key of noughts")
		}
	}
}

// P3.4: what is signed is verified by the key of the leaf, at all messages and leaves.
func TestSignedIsVerified(t *testing.T) {
	for _, seed := range []api.Digest{{}, seedOf(0), seedOf(200)} {
		for _, leaf := range someLeaves() {
			for _, message := range messages() {
				s, key := sign(t, seed, leaf, message)
				if lamport.Of(message, s) != key || !lamport.Verify(key, message, s) {
					t.Fatalf("leaf %d, %x: not verified", leaf, message)
				}
			}
		}
	}
}

// P3.2: a key of another leaf or seed does not verify.
func TestVerifyAnotherKey(t *testing.T) {
	message := []byte("hi")
	s, _ := sign(t, seedOf(0), 258, message)
	for _, leaf := range []int{0, 2, 257, 259, 513, 65535} {
		if _, key := sign(t, seedOf(0), leaf, message); lamport.Verify(key, message, s) {
			t.Errorf("verified by the key of leaf %d", leaf)
		}
	}
	for _, seed := range []api.Digest{{}, seedOf(1), seedOf(200)} {
		if _, key := sign(t, seed, 258, message); lamport.Verify(key, message, s) {
			t.Errorf("verified by the key of seed %x", seed)
		}
	}
}

// P3.2: a message that was not signed does not verify, where it has a bit that is unlike.
func TestVerifyAnotherMessage(t *testing.T) {
	s, key := sign(t, seedOf(0), 3, []byte("hi"))
	for _, message := range append(messages(), []byte("hi\x00"), []byte("h"), []byte("Hi"), []byte("ih")) {
		if same := string(message) == "hi"; lamport.Verify(key, message, s) != same {
			t.Errorf("%q: verified is %v", message, !same)
		}
	}
}

// P3.2: a signature of which one byte is another, each of the 4096.
func TestVerifyAnotherByte(t *testing.T) {
	message := []byte("hi")
	s, key := sign(t, seedOf(0), 65535, message)
	for at := range 4096 {
		if lamport.Verify(key, message, flipped(s, at, 1<<(at%8))) {
			t.Errorf("byte %d is another: verified", at)
		}
	}
	for _, at := range []int{0, 31, 32, 63, 64, 2047, 2048, 4064, 4095} {
		if other := flipped(s, at, 255); lamport.Of(message, other) != fitted(message, other) {
			t.Errorf("byte %d is another: not the key that it fits", at)
		}
	}
}

// P3.2: a signature whose Told and Half of one place are exchanged fits no more.
func TestVerifyExchanged(t *testing.T) {
	message := []byte("hi")
	s, key := sign(t, seedOf(0), 7, message)
	for place := range 64 {
		other := s
		other.Told[place], other.Half[place] = s.Half[place], s.Told[place]
		if lamport.Verify(key, message, other) {
			t.Errorf("place %d: verified", place)
		}
	}
}

// P3.4: of two messages with the same bits the signatures are the same, so one's is verified for the other.
func TestSameBitsSameSignature(t *testing.T) {
	a, b := twins()
	if slices.Equal(a, b) || digestOf(a) == digestOf(b) || bitsOf(a) != bitsOf(b) {
		t.Fatal("they are no twins")
	}
	if lamport.Bits(a) != lamport.Bits(b) {
		t.Error("their bits are unlike")
	}
	for _, leaf := range someLeaves() {
		first, key := sign(t, seedOf(9), leaf, a)
		second, _ := sign(t, seedOf(9), leaf, b)
		if first != second {
			t.Errorf("leaf %d: their signatures are unlike", leaf)
		}
		if !lamport.Verify(key, a, second) || !lamport.Verify(key, b, first) {
			t.Errorf("leaf %d: the one's signature is not verified for the other", leaf)
		}
	}
}

// P3.4: where a bit is unlike, the one signature has the other half's secret; elsewhere both are the same.
func TestUnlikeBits(t *testing.T) {
	var unlike [64]int
	all := messages()
	for i, message := range all {
		one, _ := sign(t, seedOf(0), 258, all[0])
		two, _ := sign(t, seedOf(0), 258, message)
		first, second := lamport.Bits(all[0]), lamport.Bits(message)
		for place := range 64 {
			if first[place] == second[place] {
				if one.Told[place] != two.Told[place] || one.Half[place] != two.Half[place] {
					t.Errorf("message %d, place %d: unlike where the bits are the same", i, place)
				}
				continue
			}
			unlike[place]++
			if halfOf(one.Told[place]) != two.Half[place] || halfOf(two.Told[place]) != one.Half[place] {
				t.Errorf("message %d, place %d: not the other half's secret", i, place)
			}
		}
	}
	if slices.Contains(unlike[:], 0) {
		t.Error("a place was never unlike")
	}
}

// What holds everywhere: the same arguments have the same answers, whatever was called in between.
func TestSignAgain(t *testing.T) {
	s, key := sign(t, seedOf(0), 3, []byte("hi"))
	sign(t, seedOf(1), 4, []byte("another"))
	if again, k := sign(t, seedOf(0), 3, []byte("hi")); again != s || k != key {
		t.Error("another signature, or key, of the same")
	}
}
