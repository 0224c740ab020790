package volume_test

import (
	"slices"
	"testing"

	"continuo/api"
	"continuo/volume"
)

// The example, 6.2: over a block's first frames a ramp, behind it its end.
func TestRampByHand(t *testing.T) {
	for _, c := range []struct {
		from, to, frames int
		b, want          api.Block
	}{
		{0, one, 2, api.Block{{10, 10, 10}}, api.Block{{0, 5, 10}}},
		{one, 0, 2, api.Block{{10, 10, 10, 10}, {-9, -9, -9, most}}, api.Block{{10, 5, 0, 0}, {-9, -5, 0, 0}}},
		{0, one, 4, api.Block{{8, 8}}, api.Block{{0, 2}}}, // a shorter block is the ramp's beginning
		{0, one, 4, api.Block{{}}, api.Block{{}}},
		{0, one, 0, api.Block{{1, -2, most}}, api.Block{{1, -2, most}}},
		{0, half, 1, api.Block{{8, 8, -3}}, api.Block{{0, 4, -2}}},
		{top, 0, 10, api.Block{{most, -most, 1, 1}}, api.Block{{most, -most, 8, 7}}},
		{0, top, api.MaxTime, api.Block{{most, most, -most, most}}, api.Block{{0, 0, 0, 0}}},
		{1, 0, api.MaxTime, api.Block{{most, -most}}, api.Block{{128, -128}}},
		{one, one, 3, api.Block{{1, 2, 3, 4}}, api.Block{{1, 2, 3, 4}}},
	} {
		if got := ramped(t, c.from, c.to, c.frames, c.b); !same(got, c.want) {
			t.Errorf("Ramp(%d, %d, %d, %v) = %v, not %v", c.from, c.to, c.frames, c.b, got, c.want)
		}
	}
}

// 6.2: Ramp is what the chapter tells, over many ramps and blocks.
func TestRampDrawn(t *testing.T) {
	for seed := range 1000 {
		d := draws(seed)
		from, to, frames := d.gain(), d.gain(), d.frames()
		b := d.block(d.channels(), d.frames())
		gains := append(steps(from, to, frames), slices.Repeat([]int{to}, len(b[0]))...)
		want := part(b, 0, len(b[0]))
		for _, row := range want {
			for i, n := range row {
				row[i] = louder(n, gains[i])
			}
		}
		if got := ramped(t, from, to, frames, b); !same(got, want) {
			t.Fatalf("Ramp(%d, %d, %d, %v) = %v, not %v", from, to, frames, b, got, want)
		}
	}
}

// Gains, 6.2: of two equally near numbers the part of the way that is further from 0 counts, up and down.
func TestStepsByHand(t *testing.T) {
	for _, c := range []struct {
		from, to int
		want     []int
	}{
		{0, one, []int{0, half}},
		{one, 0, []int{one, half}},
		{0, 1, []int{0, 1}},
		{1, 0, []int{1, 0}},
		{5, 8, []int{5, 7}},
		{8, 5, []int{8, 6}},
		{0, 3, []int{0, 1, 1, 2, 2, 3}},
		{3, 0, []int{3, 2, 2, 1, 1, 0}},
		{0, 10, []int{0, 3, 7}},
		{10, 0, []int{10, 7, 3}},
		{7, 7, []int{7, 7, 7, 7}},
		{top, 0, []int{top}},
		{9, 10, nil},
	} {
		if got := stepped(t, c.from, c.to, len(c.want)); !slices.Equal(got, c.want) {
			t.Errorf("Steps(%d, %d, %d) = %v, not %v", c.from, c.to, len(c.want), got, c.want)
		}
	}
}

// 6.2, P6.3: a ramp's gains lie between its ends, never go back, and begin with its first.
func TestStepsDrawn(t *testing.T) {
	for seed := range 1000 {
		d := draws(seed)
		from, to := d.gain(), d.gain()
		frames := []int{1, d.frames(), api.MaxFrames, d.below(api.MaxFrames + 1)}[d.below(4)]
		got := stepped(t, from, to, frames)
		if !slices.Equal(got, steps(from, to, frames)) {
			t.Fatalf("Steps(%d, %d, %d) = %v", from, to, frames, got)
		}
		if frames > 0 && got[0] != from {
			t.Fatalf("Steps(%d, %d, %d) begins with %d", from, to, frames, got[0])
		}
		for i, gain := range got {
			if gain < min(from, to) || gain > max(from, to) || i > 0 && (gain-got[i-1])*(to-from) < 0 {
				t.Fatalf("Steps(%d, %d, %d): %v goes astray at %d", from, to, frames, got, i)
			}
		}
	}
}

// P6.3: behind a ramp the target holds, and Push goes by the gains of Steps.
func TestTargetHolds(t *testing.T) {
	for seed := range 200 {
		d := draws(seed)
		from, to, frames := d.gain(), d.gain(), 1+d.frames()
		v := begun(t, 1)
		set(t, v, 0, from)
		set(t, v, frames, to)
		if from == to {
			frames = 0
		}
		for i, gain := range stepped(t, from, to, frames) {
			check(t, v, frames-i, gain)
			pushed(t, v, filled(1, 1, 1))
		}
		for range 3 {
			check(t, v, 0, to)
			pushed(t, v, filled(1, d.below(50), 1))
		}
	}
}

// 6.2, R2: Ramp's errors, and their order.
func TestRampErrors(t *testing.T) {
	wrong := func(from, to, frames int, b api.Block, want api.Errno) {
		t.Helper()
		if out, e := volume.Ramp(from, to, frames, b); e != want || len(out) != 0 {
			t.Errorf("Ramp(%d, %d, %d, ..) = %d channels, %d, not %d", from, to, frames, len(out), e, want)
		}
	}
	b := filled(2, 3, 1)
	for _, n := range noGains() {
		wrong(n, one, 3, b, api.ErrRange)
		wrong(one, n, 3, b, api.ErrRange)
		wrong(n, one, 0, b, api.ErrRange)
	}
	for _, n := range noTimes() {
		wrong(0, one, n, b, api.ErrRange)
	}
	for _, bad := range invalidBlocks() {
		wrong(0, one, 3, bad, api.ErrInvalid)
		wrong(-1, one, 3, bad, api.ErrInvalid)
		wrong(0, top+1, -1, bad, api.ErrInvalid)
	}
	ramped(t, 0, top, api.MaxTime, filled(8, api.MaxFrames, most))
	ramped(t, top, 0, api.MaxTime, filled(8, 0, 0))
}

// 6.2, R2: Steps' errors, and their order.
func TestStepsErrors(t *testing.T) {
	wrong := func(from, to, frames int, want api.Errno) {
		t.Helper()
		if l, e := volume.Steps(from, to, frames); e != want || len(l) != 0 {
			t.Errorf("Steps(%d, %d, %d) = %d gains, %d, not %d", from, to, frames, len(l), e, want)
		}
	}
	for _, n := range noGains() {
		wrong(n, one, 3, api.ErrRange)
		wrong(one, n, 3, api.ErrRange)
		wrong(n, one, api.MaxFrames+1, api.ErrRange)
		wrong(one, n, api.MaxTime, api.ErrRange)
	}
	for _, n := range noTimes() {
		wrong(0, one, n, api.ErrRange)
	}
	for _, n := range []int{api.MaxFrames + 1, 2 * api.MaxFrames, api.MaxTime} {
		wrong(0, one, n, api.ErrLimit)
		wrong(one, one, n, api.ErrLimit)
	}
	stepped(t, 0, top, api.MaxFrames)
}
