package lamport_test

import (
	"bytes"
	"math"
	"slices"
	"testing"

	"cachet/api"
	"cachet/lamport"
)

// P3.1: secrets that were worked out elsewhere; of 258 and 513 the two bytes are turned round.
func TestSecretKnown(t *testing.T) {
	rows := []struct {
		leaf, place, bit int
		want             string
	}{
		{0, 0, 0, "70f4003d52b6eb03da852e93256b5986b5d4883098bb7973bc5318cc66637a84"},
		{0, 0, 1, "04a6950a06d3e3308ad7d3606ef810eb124e3943404ca746a12c51c7bf776839"},
		{0, 63, 1, "9cfeb81147c9284ff8522172a36b256c53b475fe063aee1df72b32e15a48e32b"},
		{255, 0, 0, "2afbf3b943aadc4a85211497c24aeb20eb623e79e1653f7e19dcd764144d09f7"},
		{256, 0, 0, "647b3f39ffa2aa0d0476dd626da29849ae5d53dc4a8c49afb6c122ad1f8f21f1"},
		{258, 3, 1, "786276517c78a71f43f81367e2427a2c6e35d183e2b62d4d2365e6e4c2ce6cfc"},
		{513, 3, 1, "da6b808dd427cb2c4bf50afc86b9a3b1098309b171b4806b63f74a41d36d661b"},
		{65535, 63, 1, "73e2db4cf68740b2ace60c89f01b90d6570861f333edf706d32d082056e16a22"},
	}
	for _, row := range rows {
		d, e := lamport.Secret(seedOf(0), row.leaf, row.place, row.bit)
		if d != parse(t, row.want) || e != api.OK {
			t.Errorf("leaf %d, place %d, bit %d: %x, %v", row.leaf, row.place, row.bit, d, e)
		}
	}
}

// P3.1: a secret is the digest of its 36 bytes, at all places and bits, and no two are alike.
func TestSecret(t *testing.T) {
	seen := map[api.Digest]int{}
	for _, seed := range []api.Digest{{}, {31: 1}, seedOf(0), seedOf(200)} {
		for _, leaf := range someLeaves() {
			for place := range 64 {
				for bit := range 2 {
					d, e := lamport.Secret(seed, leaf, place, bit)
					if d != secretOf(seed, leaf, place, bit) || e != api.OK {
						t.Fatalf("leaf %d, place %d, bit %d: %x, %v", leaf, place, bit, d, e)
					}
					if seen[d]++; seen[d] > 1 {
						t.Fatalf("leaf %d, place %d, bit %d: the secret of another one", leaf, place, bit)
					}
				}
			}
		}
	}
}

// P3.1: a leaf, a place, a bit that is none, alone and beside others.
func TestSecretRefuses(t *testing.T) {
	noPlaces := []int{-1, 64, -2, -64, 65, 127, 128, 255, 256, 256 + 3, 65536, 1 << 32, math.MinInt, math.MaxInt}
	noBits := []int{-1, 2, -2, 3, 4, 255, 256, 257, 65536, 1 << 32, 1<<32 + 1, math.MinInt, math.MaxInt}
	refused := func(leaf, place, bit int) {
		t.Helper()
		if d, e := lamport.Secret(seedOf(0), leaf, place, bit); d != (api.Digest{}) || e != api.ErrRange {
			t.Errorf("leaf %d, place %d, bit %d: %x, %v", leaf, place, bit, d, e)
		}
	}
	for _, leaf := range noLeaves() {
		refused(leaf, 0, 0)
		refused(leaf, 63, 1)
		refused(leaf, -1, 2)
	}
	for _, place := range noPlaces {
		refused(0, place, 0)
		refused(65535, place, 1)
		refused(0, place, 2)
	}
	for _, bit := range noBits {
		refused(0, 0, bit)
		refused(65535, 63, bit)
		refused(-1, 0, bit)
	}
}

// P3.1: keys that were worked out elsewhere.
func TestKeyKnown(t *testing.T) {
	rows := []struct {
		leaf int
		want string
	}{
		{0, "d52300814422b35b29d5c1a783a36184a0d8b50fddf83d4ae3a74cd65ff00a28"},
		{1, "d45f2479deeeb9f63e0f4f11863eccc73035e25768b1086b23e0e76ce7373fd7"},
		{255, "63812c9622e3f48257c14e6b96dae649def636db6e28092163d69fc23e2dd3e7"},
		{256, "73c08144263cc1e5535acd921d13cc735fdf3f87584293bbf42e3306235f3841"},
		{258, "a845fd5e4e2e7f7c882ba3651529f88c05e982063a3937222e9851d66087aa4e"},
		{513, "3467d19e9015f922c89e3606ae8872250994294284e31c8419589efb782cb273"},
		{65535, "3f0bb6978785d89a112b013f8bd992b87c5cd4c59b27da14a5a72e9c833ba2ae"},
	}
	for _, row := range rows {
		if d, e := lamport.Key(seedOf(0), row.leaf); d != parse(t, row.want) || e != api.OK {
			t.Errorf("leaf %d: %x, %v", row.leaf, d, e)
		}
	}
}

// P3.1: a key is the digest of its halves; another leaf, another seed has another one.
func TestKey(t *testing.T) {
	seen := map[api.Digest]int{}
	for _, seed := range []api.Digest{{}, {31: 1}, seedOf(0), seedOf(200)} {
		for _, leaf := range someLeaves() {
			d, e := lamport.Key(seed, leaf)
			if d != keyOf(seed, leaf) || e != api.OK {
				t.Errorf("leaf %d: %x, %v", leaf, d, e)
			}
			if seen[d]++; seen[d] > 1 {
				t.Errorf("leaf %d: the key of another one", leaf)
			}
		}
	}
}

// P3.1: a leaf that is none has no key.
func TestKeyRefuses(t *testing.T) {
	for _, leaf := range noLeaves() {
		if d, e := lamport.Key(seedOf(0), leaf); d != (api.Digest{}) || e != api.ErrRange {
			t.Errorf("leaf %d: %x, %v", leaf, d, e)
		}
	}
}

// P3.1: bits that were worked out elsewhere, of each byte the highest ahead.
func TestBitsKnown(t *testing.T) {
	rows := []struct{ message, want string }{
		{"", "1110001110110000110001000100001010011000111111000001110000010100"},
		{"abc", "1011101001111000000101101011111110001111000000011100111111101010"},
		{"hi", "1000111101000011010000110100011001100100100011110110101110010110"},
	}
	for _, row := range rows {
		for place, is := range lamport.Bits([]byte(row.message)) {
			if is != (row.want[place] == '1') {
				t.Errorf("%q, place %d: %v", row.message, place, is)
			}
		}
	}
}

// P3.1: of many messages, so that each place is seen with both bits.
func TestBits(t *testing.T) {
	var seen [64][2]int
	for _, message := range messages() {
		got := lamport.Bits(message)
		for place, bit := range bitsOf(message) {
			seen[place][bit]++
			if got[place] != (bit == 1) {
				t.Errorf("%x, place %d: %v", message, place, got[place])
			}
		}
	}
	for place, counts := range seen {
		if counts[0] == 0 || counts[1] == 0 {
			t.Errorf("place %d was seen with one bit only", place)
		}
	}
}

// P3.1, and what holds everywhere: nil is as no bytes.
func TestBitsOfNil(t *testing.T) {
	if lamport.Bits(nil) != lamport.Bits([]byte{}) {
		t.Error("nil is not as no bytes")
	}
}

// What holds everywhere: a message stays as it is, spare room included.
func TestMessageStays(t *testing.T) {
	for _, n := range []int{0, 1, 55, 64, 100} {
		whole := pattern(n + 100)
		was := slices.Clone(whole)
		message := whole[:n]
		lamport.Bits(message)
		s, _ := lamport.Sign(seedOf(0), 5, message)
		lamport.Of(message, s)
		lamport.Verify(api.Digest{}, message, s)
		if !bytes.Equal(whole, was) {
			t.Errorf("%d bytes: they were changed", n)
		}
	}
}
