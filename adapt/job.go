package adapt

import (
	"iter"
	"slices"

	"continuo/api"
	"continuo/layout"
	"continuo/resample"
	"continuo/sample"
	"continuo/volume"
)

// job is what is to be done: from a fixed format to another one.
type job struct {
	from, to api.Fixed
	turn     api.Turn
}

func jobOf(from, to api.Fixed, t api.Turn) job {
	must(Valid(from) && Valid(to) && ValidTurn(to, t), api.ErrInvalid)
	return job{from, to, t}
}

// kind is what a step's word stands for: when a job has such a step, and how it is made.
type kind struct {
	wanted func(j job) bool
	made   func(j job) step
}

func kinds() map[string]kind {
	return map[string]kind{
		"pass":   {job.passes, job.pass},
		"decode": {job.turns, job.decode},
		"mix":    {job.mixes, job.mix},
		"rate":   {job.rates, job.rate},
		"gain":   {job.gains, job.gain},
		"encode": {job.turns, job.encode},
	}
}

// steps yields the words of those steps that the job has, with the steps.
func (j job) steps(words []string) iter.Seq2[string, step] {
	return func(yield func(word string, s step) bool) {
		all := kinds()
		for _, word := range words {
			k := all[word]
			if k.wanted(j) && !yield(word, k.made(j)) {
				return
			}
		}
	}
}

// all are the words of the steps that there may be, in their order.
func (j job) all() []string {
	return slices.Concat([]string{"pass", "decode"}, j.between(), []string{"encode"})
}

// between are the words of the steps from samples to samples: channels become fewer ahead of rate, and more behind it, so that it has no more than it must.
func (j job) between() []string {
	if len(j.from.Layout) < len(j.to.Layout) {
		return []string{"rate", "mix", "gain"}
	}
	return []string{"mix", "rate", "gain"}
}

func (j job) passes() bool { return sameFixed(j.from, j.to) && !j.gains() && j.turn.Seed == 0 }

func (j job) turns() bool { return !j.passes() }

func (j job) mixes() bool { return !slices.Equal(j.from.Layout, j.to.Layout) }

func (j job) rates() bool { return j.from.Rate != j.to.Rate }

func (j job) gains() bool {
	return slices.ContainsFunc(j.turn.Gains, func(n int) bool { return n != api.One })
}

// dithers reports whether bytes are made with noise: only levels of fewer bits than samples have are.
func (j job) dithers() bool {
	const most = 16
	return j.turn.Seed > 0 && got(sample.Bits(j.to.Encoding)) <= most
}

func (j job) pass() step { return pass{} }

func (j job) decode() step {
	return decode{j.from.Encoding, len(j.from.Layout), j.from.Planar}
}

func (j job) mix() step {
	return mix(got(layout.Normal(got(layout.Between(j.from.Layout, j.to.Layout, true)))))
}

func (j job) rate() step {
	channels := min(len(j.from.Layout), len(j.to.Layout))
	return rate{got(resample.New(j.from.Rate, j.to.Rate, j.turn.Quality, channels))}
}

func (j job) gain() step {
	v := got(volume.New(len(j.to.Layout)))
	e := v.Set(j.turn.Gains, 0)
	must(e == api.OK, e)
	return gain{v}
}

func (j job) encode() step {
	if j.dithers() {
		return dither{got(sample.NewDither(j.to.Encoding, j.turn.Seed, len(j.to.Layout), true)), j.to.Planar}
	}
	return encode{j.to.Encoding, j.to.Planar}
}
