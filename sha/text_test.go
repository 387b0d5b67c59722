package sha_test

import (
	"strings"
	"testing"

	"cachet/api"
	"cachet/sha"
)

// mixed is a digest that has all digits in its text.
func mixed() api.Digest {
	var d api.Digest
	for i := range d {
		d[i] = byte(i*17 + 1)
	}
	return d
}

const mixedText = "0112233445566778899aabbccddeef00112233445566778899aabbccddeeff10"

// P1.2: two digits a byte, the higher ahead.
func TestText(t *testing.T) {
	if got := sha.Text(mixed()); got != mixedText {
		t.Error(got)
	}
	if got := sha.Text(api.Digest{}); got != strings.Repeat("0", 64) {
		t.Error(got)
	}
}

// P1.2: the digest whose text that is.
func TestParse(t *testing.T) {
	if d, e := sha.Parse(mixedText); d != mixed() || e != api.OK {
		t.Error(d, e)
	}
	if d, e := sha.Parse(strings.Repeat("0", 64)); d != (api.Digest{}) || e != api.OK {
		t.Error(d, e)
	}
}

// P1.2: texts of other lengths, and of other signs.
func TestParseRefuses(t *testing.T) {
	texts := []string{
		"", "0", "BA", "00", mixedText[:62], mixedText[:63], mixedText + "0", mixedText + "00", mixedText + mixedText,
		strings.ToUpper(mixedText), strings.Replace(mixedText, "a", "A", 1), strings.Replace(mixedText, "f", "F", 1),
		"0x" + mixedText, "0x" + mixedText[2:], " " + mixedText, mixedText + "\n", " " + mixedText[1:], "-" + mixedText[1:], "+" + mixedText[1:],
		strings.Repeat("é", 32), strings.Repeat("\xff", 64), strings.Repeat("\x00", 64), strings.Repeat("٣", 32), strings.Repeat("a", 1<<20),
	}
	for _, s := range texts {
		if d, e := sha.Parse(s); d != (api.Digest{}) || e != api.ErrHex {
			t.Errorf("Parse(%.70q): %v, %v", s, d, e)
		}
	}
}

// P1.2: every byte at every place: 16 are digits, all others are none.
func TestParseEveryByteEverywhere(t *testing.T) {
	for place := range len(mixedText) {
		for sign := range 256 {
			text := []byte(mixedText)
			text[place] = byte(sign)
			want, wantErr := mixed(), api.OK
			if at := strings.IndexByte("0123456789abcdef", byte(sign)); at < 0 {
				want, wantErr = api.Digest{}, api.ErrHex
			} else if place%2 == 0 {
				want[place/2] = want[place/2]&15 | byte(at)<<4
			} else {
				want[place/2] = want[place/2]&240 | byte(at)
			}
			if d, e := sha.Parse(string(text)); d != want || e != wantErr {
				t.Errorf("place %d, byte %d: %v, %v", place, sign, d, e)
			}
		}
	}
}

// P1.2: the first byte that is unlike tells, whatever stands behind it; bytes above 127 are not below 0.
func TestCompare(t *testing.T) {
	if n := sha.Compare(mixed(), mixed()); n != 0 {
		t.Errorf("the same: %d", n)
	}
	for place := range 32 {
		for _, pair := range [][2]byte{{0, 1}, {127, 128}, {0, 255}, {254, 255}} {
			less, more := mixed(), mixed()
			less[place], more[place] = pair[0], pair[1]
			for behind := place + 1; behind < 32; behind++ {
				less[behind], more[behind] = 255, 0
			}
			if a, b := sha.Compare(less, more), sha.Compare(more, less); a != -1 || b != 1 {
				t.Errorf("place %d, %v: %d, %d", place, pair, a, b)
			}
		}
	}
}

// P1.4: Parse of Text is the digest, Text of Parse the text.
func TestTextAndParseTurnRound(t *testing.T) {
	for n := range 300 {
		d := sha.Sum(pattern(n))
		text := sha.Text(d)
		back, e := sha.Parse(text)
		if back != d || e != api.OK || sha.Text(back) != text {
			t.Errorf("%s: %v, %v", text, back, e)
		}
	}
	for x := range 256 {
		d := api.Digest{}
		d[x%32] = byte(x)
		if back, e := sha.Parse(sha.Text(d)); back != d || e != api.OK {
			t.Errorf("%v: %v, %v", d, back, e)
		}
	}
}
