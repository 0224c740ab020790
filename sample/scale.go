package sample

// sampleBits are the bits of a sample: those of E24L, so that its levels are the samples.
const sampleBits = 24

// top is the greatest level of so many bits; the least is its negative.
func top(bits int) int { return 1<<(bits-1) - 1 }

// levelOf is the level of a sample, sampleOf the sample of a level.
func levelOf(c coder, sample int) int { return rescaled(sample, sampleBits, c.bits()) }

func sampleOf(c coder, level int) int { return rescaled(level, c.bits(), sampleBits) }

// rescaled brings a number of so many bits to other bits.
func rescaled(n, from, to int) int {
	if from > to {
		n = rounded(n, 1<<(from-to))
	} else {
		n *= 1 << (to - from)
	}
	return bounded(n, top(to))
}

// rounded is a number rounded by one above 0.
func rounded(a, n int) int {
	if a < 0 {
		return -rounded(-a, n)
	}
	return (a + n/2) / n
}

// bounded is a number bounded to -most .. most.
func bounded(n, most int) int { return min(max(n, -most), most) }

// within reports whether a number is from -most to most.
func within(n, most int) bool { return n >= -most && n <= most }
