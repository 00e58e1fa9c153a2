package turn

import (
	"math"

	"facet/api"
	"facet/plain"
)

// quarter holds the bits of the float64 nearest to the cosines of the first quarter's parts.
var quarter = [circle/4 + 1]uint64{
	0x3ff0000000000000, 0x3feffb9d2897136e, 0x3fefee75d62a9c46, 0x3fefd88da3d12526,
	0x3fefb9ea92ec689b, 0x3fef92950983df6b, 0x3fef6297cff75cb0, 0x3fef2a000e0a5970,
	0x3feee8dd4748bf15, 0x3fee9f4156c62dda, 0x3fee4d406a38e9ab, 0x3fedf2f0fc71c4e5,
	0x3fed906bcf328d46, 0x3fed25cbe464ab60, 0x3fecb32e76b1d0f4, 0x3fec38b2f180bdb1,
	0x3febb67ae8584caa, 0x3feb2caa0dab2702, 0x3fea9b66290ea1a3, 0x3fea02d70cdf74db,
	0x3fe963268b572492, 0x3fe8bc806b151741, 0x3fe80f125b1e8028, 0x3fe75b0be65866fb,
	0x3fe6a09e667f3bcd, 0x3fe5dffcf69f89ed, 0x3fe5195c65137f0c, 0x3fe44cf325091dd6,
	0x3fe37af93f9513ea, 0x3fe2a3a844564aa5, 0x3fe1c73b39ae68c8, 0x3fe0e5ee8c939850,
	0x3fe0000000000000, 0x3fde2b5d3806f63b, 0x3fdc4e7538f866fc, 0x3fda69cabef5b501,
	0x3fd87de2a6aea963, 0x3fd68b43c8f5832a, 0x3fd49276d5c7bb48, 0x3fd294062ed59f06,
	0x3fd0907dc1930690, 0x3fcd10d5c1b71b7f, 0x3fc8f8b83c69a60b, 0x3fc4d9c24572b693,
	0x3fc0b5150f6da2d1, 0x3fb917a6bc29b42c, 0x3fb0be426d197a8b, 0x3fa0c08e3d596aee,
	0x0000000000000000,
}

// cosine answers the float64 nearest to the cosine of k parts of the circle.
func cosine(k int) float64 {
	k, isTurned := folded(k, circle)
	x := math.Float64frombits(quarter[k])
	if isTurned {
		return -x
	}
	return x
}

// folded answers how many m-ths of a turn, at most a quarter, have the cosine of k m-ths, or, where it answers true, that cosine with the other sign.
func folded(k, m int) (int, bool) {
	k = plain.Residue(k, m)
	k = min(k, m-k)
	if k > m/4 {
		return m/2 - k, true
	}
	return k, false
}

// doubled answers twice the real part of r turned by so many M-ths, as whole numbers of times: the first of 1, those behind it of twice the cosines of 1, 2 and so on M-ths of a turn, up to a sixth of a turn. Since all of these are independent, there is just one such list.
func doubled(r api.Ring, by int) []int {
	sixth := r.M / 6
	list := make([]int, sixth)
	for i, n := range r.C {
		k, isTurned := folded(i+by, r.M)
		if isTurned {
			n = -n
		}
		switch {
		case k == 0:
			list[0] += 2 * n
		case k < sixth:
			list[k] += n
		case k == sixth:
			list[0] += n
		default:
			// t behind the sixth: cos(60 degrees + t) = cos(t) - cos(60 degrees - t), 0 where that is a quarter.
			list[k-sixth] += n
			list[2*sixth-k] -= n
		}
	}
	return list
}
