package resample

import (
	"slices"

	"continuo/api"
)

// quality is how samples about a place become one: as many up to its whole part as ahead of it.
type quality struct {
	ahead   int
	unit    int // what the weights of a phase are together
	weights func(phase int) weights
}

// weights are those of a phase; behind as many as a quality has stand zeros.
type weights [4]int

// qualities are linear (1) and cubic (2).
func qualities() []quality {
	return []quality{
		{ahead: 1, unit: phases, weights: linear},
		{ahead: 2, unit: 6 * phases * phases * phases, weights: cubic},
	}
}

func qualityOf(n int) quality {
	l := qualities()
	must(n >= 1 && n <= len(l), api.ErrRange)
	return l[n-1]
}

func linear(k int) weights { return weights{phases - k, k} }

func cubic(k int) weights {
	const n = phases
	return weights{
		-k * (n - k) * (2*n - k),
		3 * (n + k) * (n - k) * (2*n - k),
		3 * k * (n + k) * (2*n - k),
		-k * (n + k) * (n - k),
	}
}

// kept is how many samples that came the next frame may ask for: all that have a weight but the one that it waits for.
func (q quality) kept() int { return 2*q.ahead - 1 }

// joining hands the weights of a phase on to what makes one sample of the first ones of a list.
func (q quality) joining(phase int) func(samples []int) int {
	w := q.weights(phase)
	return func(samples []int) int {
		sum := 0
		for i, n := range samples[:2*q.ahead] {
			sum += w[i] * n
		}
		return bounded(rounded(sum, q.unit), api.MaxSample)
	}
}

// rounded is the whole number nearest to a / n, of two the one further from 0.
func rounded(a, n int) int {
	if a < 0 {
		return -rounded(-a, n)
	}
	return (2*a + n) / (2 * n)
}

func bounded(n, most int) int { return min(max(n, -most), most) }

// Weights returns the weights of a phase, in the order of the samples.
func Weights(quality, k int) ([]int, api.Errno) {
	return fitted(func() []int {
		q := qualityOf(quality)
		must(k >= 0 && k < phases, api.ErrRange)
		w := q.weights(k)
		return slices.Clone(w[:2*q.ahead])
	})
}
