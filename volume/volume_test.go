package volume_test

import (
	"slices"
	"testing"

	"continuo/api"
	"continuo/volume"
)

// check compares what a Volume tells of its next frame.
func check(t *testing.T, v *volume.Volume, left int, now ...int) {
	t.Helper()
	if !slices.Equal(v.Now(), now) || v.Left() != left {
		t.Errorf("Now = %v, Left = %d, not %v, %d", v.Now(), v.Left(), now, left)
	}
}

// 6.1: New begins with all gains One, no mutes, no ramps.
func TestNew(t *testing.T) {
	for channels := 1; channels <= api.MaxChannels; channels++ {
		v := begun(t, channels)
		ones := slices.Repeat([]int{one}, channels)
		check(t, v, 0, ones...)
		if !slices.Equal(v.Gains(), ones) {
			t.Errorf("Gains = %v", v.Gains())
		}
		mute(t, v, 9, make([]bool, channels)...) // nothing is muted
		check(t, v, 0, ones...)
	}
	for _, n := range noChannels() {
		if v, e := volume.New(n); v != nil || e != api.ErrRange {
			t.Errorf("New(%d) = %v, %d", n, v, e)
		}
	}
}

// Gains, 6.1: a ramp goes from gain to gain over its frames; behind it the target holds.
func TestSetByHand(t *testing.T) {
	v := begun(t, 2)
	set(t, v, 4, 0, 2*one)
	check(t, v, 4, one, one) // Now of a ramp that has just begun is its beginning
	if got := pushed(t, v, api.Block{{8, 8, 8}, {8, -8, 8}}); !same(got, api.Block{{8, 6, 4}, {8, -10, 12}}) {
		t.Errorf("Push = %v", got)
	}
	check(t, v, 1, one/4, 7*one/4)
	if got := pushed(t, v, api.Block{{}, {}}); !same(got, api.Block{{}, {}}) {
		t.Errorf("Push of no frames = %v", got)
	}
	check(t, v, 1, one/4, 7*one/4)
	if got := pushed(t, v, api.Block{{8, 8, 8}, {8, 8, most}}); !same(got, api.Block{{2, 0, 0}, {14, 16, most}}) {
		t.Errorf("Push = %v", got)
	}
	check(t, v, 0, 0, 2*one)
	set(t, v, 0, half, half)
	check(t, v, 0, half, half)
	if got := pushed(t, v, api.Block{{3, -3}, {5, -5}}); !same(got, api.Block{{2, -2}, {3, -3}}) {
		t.Errorf("Push = %v", got)
	}
}

// Gains: a ramp in the middle of a ramp begins at the gain of the frame that would come next, as it is rounded.
func TestSetAmidARamp(t *testing.T) {
	v := begun(t, 1)
	set(t, v, 3, 0)
	pushed(t, v, api.Block{{0}})
	check(t, v, 2, 43691) // 65536 - 65536 / 3
	set(t, v, 2, 43692)
	check(t, v, 2, 43691)
	pushed(t, v, api.Block{{0}})
	check(t, v, 1, 43692) // half a gain further, away from 0
	set(t, v, 10, 0)
	check(t, v, 10, 43692)
	pushed(t, v, filled(1, 9, 0))
	check(t, v, 1, 4369) // 43692 - 39322.8
	set(t, v, 0, 7)
	check(t, v, 0, 7)
	set(t, v, api.MaxTime, top)
	pushed(t, v, filled(1, api.MaxFrames, 0))
	check(t, v, api.MaxTime-api.MaxFrames, 10) // 7 + 2.68
}

// 6.1: at the first frame of a ramp the gain is still what it was; a ramp to just that goes no less its frames.
func TestSetBackAtOnce(t *testing.T) {
	v := begun(t, 1)
	set(t, v, 4, 0)
	set(t, v, 6, one)
	check(t, v, 6, one)
	if got := pushed(t, v, api.Block{{8, 8}}); !same(got, api.Block{{8, 8}}) {
		t.Errorf("Push = %v", got)
	}
	check(t, v, 4, one)
}

// Details: a channel whose target does not change goes on with the ramp that it is in, whatever frames are told.
func TestSetTheSame(t *testing.T) {
	for _, frames := range []int{0, 1, 4, api.MaxTime} {
		v := begun(t, 2)
		set(t, v, 4, 0, 0)
		pushed(t, v, filled(2, 1, 8))
		set(t, v, frames, 0, 0)
		check(t, v, 3, 3*one/4, 3*one/4)
		set(t, v, 2, 0, one)
		check(t, v, 3, 3*one/4, 3*one/4)
		if got := pushed(t, v, filled(2, 4, 8)); !same(got, api.Block{{6, 4, 2, 0}, {6, 7, 8, 8}}) {
			t.Errorf("%d: Push = %v", frames, got)
		}
	}
}

// 6.1: Left is that of the ramp that ends last.
func TestLeft(t *testing.T) {
	v := begun(t, 3)
	set(t, v, 20, one, 0, one)
	pushed(t, v, filled(3, 15, 0))
	check(t, v, 5, one, one/4, one)
	set(t, v, 3, 0, 0, one)
	check(t, v, 5, one, one/4, one)
	set(t, v, 7, 0, 0, 0)
	check(t, v, 7, one, one/4, one)
	set(t, v, 0, 0, 0, one)
	check(t, v, 5, one, one/4, one)
	pushed(t, v, filled(3, 4, 0))
	check(t, v, 1, 0, one/20+1, one) // 65536 - 62259.2
	pushed(t, v, filled(3, 1, 0))
	check(t, v, 0, 0, 0, one)
}

// Gains, Details: a muted channel's target is 0; its gain is kept, and may be set.
func TestMuteByHand(t *testing.T) {
	v := begun(t, 2)
	mute(t, v, 2, true, false)
	check(t, v, 2, one, one)
	if got := pushed(t, v, filled(2, 3, 8)); !same(got, api.Block{{8, 4, 0}, {8, 8, 8}}) {
		t.Errorf("Push = %v", got)
	}
	set(t, v, 0, 2*one, half)
	check(t, v, 0, 0, half)
	set(t, v, 9, half, half) // the muted one keeps its target
	check(t, v, 0, 0, half)
	mute(t, v, 4, false, true)
	check(t, v, 4, 0, half)
	if got := pushed(t, v, filled(2, 5, 64)); !same(got, api.Block{{0, 8, 16, 24, 32}, {32, 24, 16, 8, 0}}) {
		t.Errorf("Push = %v", got)
	}
	mute(t, v, 0, false, false)
	check(t, v, 0, half, half)
}

// Details: Mute of what is muted changes nothing, nor does a gain that is set in the middle of its ramp.
func TestMuteOfMuted(t *testing.T) {
	v := begun(t, 1)
	mute(t, v, 4, true)
	pushed(t, v, filled(1, 1, 0))
	for _, frames := range []int{0, 1, 100} {
		mute(t, v, frames, true)
		check(t, v, 3, 3*one/4)
		set(t, v, frames, half)
		check(t, v, 3, 3*one/4)
		set(t, v, frames, 0)
		check(t, v, 3, 3*one/4)
		mute(t, v, frames, false) // the gain is 0 as well
		check(t, v, 3, 3*one/4)
		mute(t, v, frames, true)
	}
	set(t, v, 0, one)
	mute(t, v, 1, false)
	check(t, v, 1, 3*one/4)
	pushed(t, v, filled(1, 1, 0))
	check(t, v, 0, one)
	mute(t, v, 0, true)
	check(t, v, 0, 0)
}

// Gains, P6.5: with 0 frames the target counts at once, also in the middle of a ramp, which is over then.
func TestMuteEndsARamp(t *testing.T) {
	v := begun(t, 1)
	set(t, v, 8, half)
	pushed(t, v, filled(1, 4, 0))
	check(t, v, 4, 3*one/4)
	mute(t, v, 0, true)
	check(t, v, 0, 0)
	mute(t, v, 0, false)
	check(t, v, 0, half)
}

// 6.1, P6.2, P8: whatever is set, muted, pushed and copied in whatever order is as the chapter tells it.
func TestDrawn(t *testing.T) {
	for seed := range 500 {
		d := draws(seed)
		channels := d.channels()
		v, m := begun(t, channels), newTold(channels)
		for range 20 {
			step(t, &d, v, m)
			agree(t, v, m)
			if d.below(5) == 0 {
				old, was := v, m.copy()
				v = v.Copy()
				step(t, &d, v, m)
				agree(t, v, m)
				agree(t, old, was)
			}
		}
	}
}

// step does one thing with a Volume and with what it is told to be.
func step(t *testing.T, d *draws, v *volume.Volume, m told) {
	t.Helper()
	frames := d.frames()
	switch d.below(5) {
	case 0:
		gains := d.gains(len(m))
		m.set(gains, frames)
		set(t, v, frames, gains...)
	case 1:
		gains := v.Gains() // all but one as they are
		gains[d.below(len(m))] = d.gain()
		m.set(gains, frames)
		set(t, v, frames, gains...)
	case 2:
		mutes := d.mutes(len(m))
		m.mute(mutes, frames)
		mute(t, v, frames, mutes...)
	default:
		b := d.block(len(m), frames)
		if got, want := pushed(t, v, b), m.push(b); !same(got, want) {
			t.Fatalf("Push(%v) = %v, not %v", b, got, want)
		}
	}
}

// refused asks for an error with which nothing changes.
func refused(t *testing.T, v *volume.Volume, want api.Errno, call func() api.Errno) {
	t.Helper()
	gains, now, left, copied := v.Gains(), v.Now(), v.Left(), v.Copy()
	if e := call(); e != want {
		t.Errorf("%d, not %d", e, want)
	}
	if !slices.Equal(v.Gains(), gains) || !slices.Equal(v.Now(), now) || v.Left() != left {
		t.Errorf("an error changes gains %v, now %v, left %d", v.Gains(), v.Now(), v.Left())
	}
	b := filled(len(gains), left+1, most)
	if !same(pushed(t, v.Copy(), b), pushed(t, copied, b)) {
		t.Errorf("an error changes what is pushed")
	}
}

// midway is a Volume of two channels, one of them muted, both in the middle of a ramp.
func midway(t *testing.T) *volume.Volume {
	v := begun(t, 2)
	mute(t, v, 5, true, false)
	set(t, v, 9, half, 3*one)
	pushed(t, v, filled(2, 3, 1))
	return v
}

// 6.1, R2, R9: Set's and Mute's errors, and their order.
func TestSetErrors(t *testing.T) {
	v := midway(t)
	setting := func(want api.Errno, frames int, gains ...int) {
		t.Helper()
		refused(t, v, want, func() api.Errno { return v.Set(gains, frames) })
	}
	muting := func(want api.Errno, frames int, mutes ...bool) {
		t.Helper()
		refused(t, v, want, func() api.Errno { return v.Mute(mutes, frames) })
	}
	for _, n := range noGains() {
		setting(api.ErrRange, 0, n, one)
		setting(api.ErrRange, 5, one, n)
		setting(api.ErrRange, 5, n) // ahead of ErrSize
		setting(api.ErrRange, 5, one, one, n)
	}
	for _, n := range noTimes() {
		setting(api.ErrRange, n, one, one)
		setting(api.ErrRange, n)
		muting(api.ErrRange, n, false, true)
		muting(api.ErrRange, n)
	}
	for _, n := range []int{0, 1, 3, 8, 9, 100000} {
		setting(api.ErrSize, 5, make([]int, n)...)
		muting(api.ErrSize, 0, make([]bool, n)...)
	}
	set(t, v, api.MaxTime, 0, top)
	mute(t, v, api.MaxTime, false, true)
}

// 6.1, R2, R9: Push's errors, and their order; the ramps do not go on.
func TestPushErrors(t *testing.T) {
	v := midway(t)
	pushing := func(want api.Errno, b api.Block) {
		t.Helper()
		refused(t, v, want, func() api.Errno {
			out, e := v.Push(b)
			if len(out) != 0 {
				t.Errorf("%d channels with an error", len(out))
			}
			return e
		})
	}
	for _, b := range invalidBlocks() {
		pushing(api.ErrInvalid, b)
	}
	for _, channels := range []int{1, 3, 8} {
		pushing(api.ErrSize, filled(channels, 0, 0))
		pushing(api.ErrSize, filled(channels, 4, 0))
	}
}
