package volume_test

import (
	"testing"

	"continuo/api"
)

// P6.2, P4: pushes of a block that is cut anywhere give the block's outcome, cut there.
func TestCut(t *testing.T) {
	for seed := range 300 {
		d := draws(seed)
		channels := d.channels()
		v := begun(t, channels)
		for range 3 {
			set(t, v, d.frames(), d.gains(channels)...)
			mute(t, v, d.frames(), d.mutes(channels)...)
			pushed(t, v, d.block(channels, d.below(20)))
		}
		b, cut := d.block(channels, d.below(300)+1), v.Copy()
		want := pushed(t, v, b)
		var got api.Block
		for at := 0; at < len(b[0]); {
			to := min(at+d.below(1+len(b[0])/(1+d.below(9))), len(b[0]))
			got = behind(got, pushed(t, cut, part(b, at, to)))
			at = to
		}
		if !same(got, want) {
			t.Fatalf("cut %v, at once %v", got, want)
		}
		check(t, cut, v.Left(), v.Now()...)
	}
}

// P6.2: a ramp that is cut into single frames, at each of which what is set already is set again.
func TestCutByNothing(t *testing.T) {
	for seed := range 100 {
		d := draws(seed)
		channels := d.channels()
		v := begun(t, channels)
		gains, mutes := d.gains(channels), d.mutes(channels)
		set(t, v, d.frames(), gains...)
		mute(t, v, d.frames(), mutes...)
		b, cut := d.block(channels, d.below(100)+1), v.Copy()
		want := pushed(t, v, b)
		var got api.Block
		for i := range b[0] {
			set(t, cut, d.frames(), gains...)
			mute(t, cut, d.frames(), mutes...)
			got = behind(got, pushed(t, cut, part(b, i, i+1)))
		}
		if !same(got, want) {
			t.Fatalf("gains %v, mutes %v: one by one %v, at once %v", gains, mutes, got, want)
		}
	}
}

// P6.5: muted and unmuted at once with 0 frames nothing has changed.
func TestMutedAndBack(t *testing.T) {
	for seed := range 200 {
		d := draws(seed)
		channels := d.channels()
		v := begun(t, channels)
		set(t, v, 0, d.gains(channels)...)
		before := d.mutes(channels)
		mute(t, v, 0, before...)
		c := v.Copy()
		mute(t, v, 0, allMuted(channels, true)...)
		check(t, v, 0, make([]int, channels)...)
		mute(t, v, 0, before...)
		check(t, v, c.Left(), c.Now()...)
		b := d.block(channels, d.below(50))
		if got, want := pushed(t, v, b), pushed(t, c, b); !same(got, want) {
			t.Fatalf("muted and back %v, not %v", got, want)
		}
		mute(t, v, 0, allMuted(channels, false)...)
		check(t, v, 0, c.Gains()...)
	}
}

// allMuted returns so many mutes, all of them so.
func allMuted(n int, muted bool) []bool {
	var out []bool
	for range n {
		out = append(out, muted)
	}
	return out
}

// Terms, Gains: channels are made louder each for itself.
func TestChannelsApart(t *testing.T) {
	for seed := range 100 {
		d := draws(seed)
		channels := d.channels()
		all, gains, mutes := begun(t, channels), d.gains(channels), d.mutes(channels)
		frames, later := d.frames(), d.frames()
		first, second := d.block(channels, d.below(40)), d.block(channels, d.below(40))
		set(t, all, frames, gains...)
		a := pushed(t, all, first)
		mute(t, all, later, mutes...)
		b := pushed(t, all, second)
		for c := range channels {
			v := begun(t, 1)
			set(t, v, frames, gains[c])
			x := pushed(t, v, first[c:c+1])
			mute(t, v, later, mutes[c])
			y := pushed(t, v, second[c:c+1])
			if !same(x, a[c:c+1]) || !same(y, b[c:c+1]) {
				t.Fatalf("channel %d of %d is another one alone", c, channels)
			}
		}
	}
}
