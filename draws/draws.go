// Package draws makes many draws of one: rows of numbers that hang on a seed alone and bear no likeness to each other.
package draws

const stride = 0x9e3779b97f4a7c15 // odd, so that no two places of a row come to the same

// At is the draw at a place of a seed's row, from 0 on. It is the row of SplitMix64; sums and products go round.
func At(seed uint64, place int) uint64 {
	z := seed + (uint64(place)+1)*stride
	z = (z ^ z>>30) * 0xbf58476d1ce4e5b9
	z = (z ^ z>>27) * 0x94d049bb133111eb
	return z ^ z>>31
}
