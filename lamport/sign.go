package lamport

import "cachet/api"

// Sign: P3.2.
func Sign(seed api.Digest, leaf int, message []byte) (api.Sig, api.Errno) {
	if !there(bound{leaf, leaves}) {
		return api.Sig{}, api.ErrRange
	}
	var s api.Sig
	for place, bit := range Bits(message) {
		s.Told[place] = secret(seed, leaf, place, bit)
		s.Half[place] = half(secret(seed, leaf, place, !bit))
	}
	return s, api.OK
}

// Verify: P3.2.
func Verify(key api.Digest, message []byte, s api.Sig) bool { return Of(message, s) == key }

// Of: P3.2.
func Of(message []byte, s api.Sig) api.Digest {
	told := Bits(message)
	return join(func(place int, bit bool) api.Digest {
		if bit == told[place] {
			return half(s.Told[place])
		}
		return s.Half[place]
	})
}
