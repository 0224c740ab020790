package resample_test

import (
	"slices"
	"testing"

	"continuo/api"
)

// P5.2, P4: however what comes is cut, what is made is the same: none is lost, doubled or moved.
func TestCut(t *testing.T) {
	for seed := range 200 {
		d := draws(seed)
		in, out := d.rates()
		quality, channels := d.quality(), d.channels()
		b := d.block(channels, d.below(min(400, room(in, out))+1))
		a, c := begun(t, in, out, quality, channels), begun(t, in, out, quality, channels)
		n := d.within(100000)
		adjust(t, a, n)
		adjust(t, c, n)
		want := pushed(t, a, b)
		var got api.Block
		for at := 0; at < len(b[0]); {
			to := min(at+d.below(1+len(b[0])/(1+d.below(5))), len(b[0]))
			got = behind(got, pushed(t, c, part(b, at, to)))
			at = to
		}
		if len(b[0]) > 0 && !same(got, want) {
			t.Fatalf("%d to %d: cut %v, at once %v", in, out, got, want)
		}
		if x, y := drained(t, a, channels), drained(t, c, channels); !same(x, y) {
			t.Fatalf("%d to %d: Drain behind cuts %v, at once %v", in, out, y, x)
		}
	}
}

// P5.2: frames that come one by one, with adjustments between the same frames made.
func TestCutAdjusted(t *testing.T) {
	for seed := range 100 {
		d := draws(seed)
		in, out := d.rates()
		quality := d.quality()
		a, c := begun(t, in, out, quality, 1), begun(t, in, out, quality, 1)
		for range 6 {
			n := d.within(100000)
			adjust(t, a, n)
			adjust(t, c, n)
			b := d.block(1, d.below(min(50, room(in, out))))
			want := pushed(t, a, b)
			got := api.Block{{}}
			for i := range b[0] {
				got = behind(got, pushed(t, c, part(b, i, i+1)))
			}
			if !same(got, want) {
				t.Fatalf("%d to %d: one by one %v, at once %v", in, out, got, want)
			}
		}
	}
}

// P5.3, 5.3: Whole makes just so many frames, and is Push, then Drain.
func TestCounted(t *testing.T) {
	for seed := range 400 {
		d := draws(seed)
		in, out := d.rates()
		quality, channels := d.quality(), d.channels()
		n := d.below(room(in, out) + 1)
		b := d.block(channels, n)
		got := whole(t, in, out, quality, b)
		if want := (n*out + in - 1) / in; len(got[0]) != want {
			t.Fatalf("%d to %d: %d frames of %d, not %d", in, out, len(got[0]), n, want)
		}
		s := begun(t, in, out, quality, channels)
		if want := behind(pushed(t, s, b), drained(t, s, channels)); !same(got, want) {
			t.Fatalf("%d to %d: Whole = %v, not %v", in, out, got, want)
		}
	}
}

// P5.4, Details: between equal rates nothing changes.
func TestItself(t *testing.T) {
	for seed := range 60 {
		d := draws(seed)
		rate, quality, channels := d.below(api.MaxRate)+1, d.quality(), d.channels()
		b := d.block(channels, []int{0, 1, 2, 3, d.below(100), api.MaxFrames}[d.below(6)])
		if got := whole(t, rate, rate, quality, b); !same(got, b) {
			t.Fatalf("quality %d, %d frames change", quality, len(b[0]))
		}
		s := begun(t, rate, rate, quality, channels)
		first, second := d.block(channels, 9), d.block(channels, 30)
		got := behind(pushed(t, s, first), pushed(t, s, second))
		if got = behind(got, drained(t, s, channels)); !same(got, behind(first, second)) {
			t.Fatalf("quality %d: %v and %v become %v", quality, first, second, got)
		}
	}
}

// P5.4: a constant sound stays constant where no sample beside it is asked for; zeros stay zeros.
func TestConstant(t *testing.T) {
	for seed := range 200 {
		d := draws(seed)
		in, out := d.rates()
		quality, n := d.quality(), d.below(room(in, out)+1)
		level := []int{most, -most, 1, -1, 0, d.within(most)}[d.below(6)]
		got := whole(t, in, out, quality, filled(1, n, level))[0]
		for j, x := range got {
			i := j * in / out
			inside := i-quality+1 >= 0 && i+quality < n
			if x != level && (inside || level == 0) {
				t.Fatalf("%d to %d, quality %d: frame %d of %d is %d, not %d", in, out, quality, j, n, x, level)
			}
		}
	}
}

// P5.5: from a rate to a multiple of it each sample that came is one of those that were made.
func TestGrid(t *testing.T) {
	for seed := range 200 {
		d := draws(seed)
		times, quality, channels := d.below(160)+1, d.quality(), d.channels()
		in := d.below(api.MaxRate/times) + 1
		b := d.block(channels, d.below(api.MaxFrames/times+1))
		for c, channel := range whole(t, in, in*times, quality, b) {
			var got []int
			for j := 0; j < len(channel); j += times {
				got = append(got, channel[j])
			}
			if !slices.Equal(got, b[c]) {
				t.Fatalf("%d to %d, quality %d: at whole places stand %v, not %v", in, in*times, quality, got, b[c])
			}
		}
	}
}

// P5.6: a sound turned round is made turned round, also where it is bounded.
func TestTurned(t *testing.T) {
	for seed := range 200 {
		d := draws(seed)
		in, out := d.rates()
		quality, channels := d.quality(), d.channels()
		b := d.block(channels, d.below(room(in, out)+1))
		if got, want := whole(t, in, out, quality, turned(b)), turned(whole(t, in, out, quality, b)); !same(got, want) {
			t.Fatalf("%d to %d, quality %d: turned round %v, not %v", in, out, quality, got, want)
		}
	}
}

// P5.6: linear frames are between their two samples.
func TestBetween(t *testing.T) {
	for seed := range 200 {
		d := draws(seed)
		in, out := d.rates()
		b := d.block(1, d.below(room(in, out)+1))
		x := append(slices.Clone(b[0]), 0)
		for j, n := range whole(t, in, out, 1, b)[0] {
			i := j * in / out
			if n < min(x[i], x[i+1]) || n > max(x[i], x[i+1]) {
				t.Fatalf("%d to %d: frame %d is %d, not between %d and %d", in, out, j, n, x[i], x[i+1])
			}
		}
	}
}

// Terms, P5.4: channels are made each for itself.
func TestChannelsApart(t *testing.T) {
	for seed := range 60 {
		d := draws(seed)
		in, out := d.rates()
		quality, channels := d.quality(), d.channels()
		b := d.block(channels, d.below(room(in, out)+1))
		for c, got := range whole(t, in, out, quality, b) {
			if want := whole(t, in, out, quality, b[c:c+1])[0]; !slices.Equal(got, want) {
				t.Fatalf("%d to %d: channel %d of %d is %v, alone %v", in, out, c, channels, got, want)
			}
		}
	}
}
