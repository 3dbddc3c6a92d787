// Package serial is layer 1: see shared/doc/01-serial.md.
package serial

// Number is one that goes round behind its greatest: of 16, or of 32 bits.
type Number interface{ ~uint16 | ~uint32 }

// modulus is how many numbers there are; it has 64 bits, because that of 32 bits does not fit into a number itself.
func modulus[N Number]() int64 {
	return int64(^N(0)) + 1
}

// Ahead: is a ahead of b, the shorter way round?
func Ahead[N Number](a, b N) bool {
	return Dist(a, b) > 0
}

// Dist: how far a is ahead of b, the shorter way round; below 0: behind it.
func Dist[N Number](a, b N) int {
	d := int64(a - b)
	if m := modulus[N](); d >= m/2 {
		d -= m
	}
	return int(d)
}

// Add: a number so far on, or back.
func Add[N Number](a N, by int) N {
	return a + N(by)
}

// Latest: the one of several that is ahead of all that came before it.
func Latest[N Number](first N, l ...N) N {
	latest := first
	for _, n := range l {
		if Ahead(n, latest) {
			latest = n
		}
	}
	return latest
}

// Near: the number, without an end, that is nearest to one, and goes round to a.
func Near[N Number](at int64, a N) int64 {
	return at + int64(Dist(a, N(at)))
}
