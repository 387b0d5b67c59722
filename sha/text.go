package sha

import "cachet/api"

const digits = "0123456789abcdef"

// Text: P1.2.
func Text(d api.Digest) string {
	text := make([]byte, 0, 2*len(d))
	for _, x := range d {
		text = append(text, digits[x>>4], digits[x&15])
	}
	return string(text)
}

// Parse: P1.2.
func Parse(s string) (api.Digest, api.Errno) {
	var d api.Digest
	if len(s) != 2*len(d) {
		return api.Digest{}, api.ErrHex
	}
	for i := range d {
		high, isHigh := value(s[2*i])
		low, isLow := value(s[2*i+1])
		if !isHigh || !isLow {
			return api.Digest{}, api.ErrHex
		}
		d[i] = read[byte]([]byte{high, low}, 4)
	}
	return d, api.OK
}

// value tells what a digit stands for. Capitals are none: a digest has one text only.
func value(digit byte) (byte, bool) {
	switch {
	case '0' <= digit && digit <= '9':
		return digit - '0', true
	case 'a' <= digit && digit <= 'f':
		return digit - 'a' + 10, true
	}
	return 0, false
}
