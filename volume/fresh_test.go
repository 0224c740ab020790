package volume_test

import (
	"slices"
	"testing"

	"continuo/api"
	"continuo/volume"
)

// roomy returns a list that shares nothing with l, and has room to spare, with marks in it.
func roomy(l []int) []int {
	out := append(make([]int, 0, len(l)+3), l...)
	for i := len(l); i < cap(out); i++ {
		out[:cap(out)][i] = 77
	}
	return out
}

// roomLeft reports whether the room to spare of what roomy made has all its marks.
func roomLeft(l []int) bool {
	return !slices.ContainsFunc(l[len(l):cap(l)], func(n int) bool { return n != 77 })
}

func roomyBlock(b api.Block) api.Block {
	out := make(api.Block, 0, len(b)+2)
	for _, row := range b {
		out = append(out, roomy(row))
	}
	out[:cap(out)][len(out)] = []int{78}
	return out
}

// unspoilt reports whether a block and its room to spare are as roomyBlock made them of b.
func unspoilt(got, b api.Block) bool {
	if !same(got, b) || !slices.Equal(got[:cap(got)][len(got)], []int{78}) || got[:cap(got)][len(got)+1] != nil {
		return false
	}
	return !slices.ContainsFunc(got, func(row []int) bool { return !roomLeft(row) })
}

// spoil writes over rows, their room to spare too.
func spoil(b [][]int, n int) {
	for _, row := range b {
		all := row[:cap(row)]
		for i := range all {
			all[i] = n
		}
	}
}

// alone reports whether no two rows share memory: each is written over with a number of its own.
func alone(b [][]int) bool {
	for i := range b {
		spoil(b[i:i+1], 1000+i)
	}
	for i, row := range b {
		if slices.ContainsFunc(row, func(n int) bool { return n != 1000+i }) {
			return false
		}
	}
	return true
}

// P6.1, R4: calls leave their blocks as they are, and give new memory.
func TestFreshBlocks(t *testing.T) {
	first, second := api.Block{{1, -2, 3}, {4, 5, -most}, {7, 8, 9}}, api.Block{{7, 0, 9}, {-1, most, 6}, {1, 2, 3}}
	v := begun(t, 3)
	calls := map[string]func(a, b api.Block) api.Block{
		"Apply": func(a, b api.Block) api.Block { return applied(t, one, a) },
		"Ramp":  func(a, b api.Block) api.Block { return ramped(t, 0, one, 2, a) },
		"Push":  func(a, b api.Block) api.Block { return pushed(t, v, a) },
		"Mix":   func(a, b api.Block) api.Block { return mixed(t, []api.Block{a, b}) },
		"Mix 1": func(a, b api.Block) api.Block { return mixed(t, []api.Block{a}) },
		"Duck":  func(a, b api.Block) api.Block { return ducked(t, a, b, 3, half) },
	}
	for name, call := range calls {
		a, b := roomyBlock(first), roomyBlock(second)
		want := part(call(first, second), 0, 3)
		got := call(a, b)
		if !same(got, want) || !alone(got) || !unspoilt(a, first) || !unspoilt(b, second) {
			t.Errorf("%s shares memory", name)
		}
		got = call(a, a) // one block twice
		if !alone(got) || !unspoilt(a, first) {
			t.Errorf("%s of one block twice shares memory", name)
		}
	}
}

// P6.1, R4: a Volume keeps nothing of what it is given, and what it tells is its own.
func TestFreshVolume(t *testing.T) {
	v := begun(t, 2)
	gains, mutes := roomy([]int{half, one}), []bool{false, true, true}[:2:3]
	set(t, v, 4, gains...)
	if e := v.Set(gains, 4); e != api.OK || !roomLeft(gains) || !slices.Equal(gains, []int{half, one}) {
		t.Errorf("Set = %d, and spoils %v", e, gains)
	}
	if e := v.Mute(mutes, 4); e != api.OK || !slices.Equal(mutes[:3], []bool{false, true, true}) {
		t.Errorf("Mute = %d, and spoils %v", e, mutes)
	}
	spoil([][]int{gains}, 5)
	mutes[0], mutes[1] = true, false
	spoil([][]int{v.Gains(), v.Now()}, 6)
	if !slices.Equal(v.Gains(), []int{half, one}) {
		t.Errorf("Gains = %v", v.Gains())
	}
	check(t, v, 4, one, one)
	pushed(t, v, filled(2, 4, 1))
	check(t, v, 0, half, 0)
}

// P6.1, R4: what Steps gives is its own.
func TestFreshSteps(t *testing.T) {
	want := slices.Clone(stepped(t, 3, one, 9))
	spoil([][]int{stepped(t, 3, one, 9)}, 9999)
	if got := stepped(t, 3, one, 9); !slices.Equal(got, want) {
		t.Errorf("Steps = %v, not %v", got, want)
	}
	gains := roomy([]int{half, one})
	if chained(t, gains...) != half || !roomLeft(gains) || !slices.Equal(gains, []int{half, one}) {
		t.Errorf("Chain spoils %v", gains)
	}
}

// 6.1: a copy has all that the Volume has, and neither changes the other one.
func TestCopy(t *testing.T) {
	v := midway(t)
	c, x := v.Copy(), v.Copy()
	mute(t, v, 0, false, true)
	set(t, v, 0, top, top)
	pushed(t, v, filled(2, 3, 1))
	if !slices.Equal(c.Gains(), []int{half, 3 * one}) {
		t.Errorf("Gains = %v", c.Gains())
	}
	check(t, c, x.Left(), x.Now()...)
	b := filled(2, 10, 1000)
	if got := pushed(t, c, b); !same(got, pushed(t, x, b)) || same(got, pushed(t, v, b)) {
		t.Errorf("a copy gives %v", got)
	}
	mute(t, c, 0, false, false)
	check(t, c, 0, half, 3*one)
	check(t, v, 0, top, 0)
}

// R5: calls of a Volume that is none.
func TestNoVolume(t *testing.T) {
	var v *volume.Volume
	for _, frames := range append(noTimes(), 0, 5) {
		for _, gain := range append(noGains(), 0, one) {
			if e := v.Set([]int{gain}, frames); e != api.ErrInvalid {
				t.Errorf("Set = %d", e)
			}
		}
		if e := v.Mute([]bool{true}, frames); e != api.ErrInvalid {
			t.Errorf("Mute = %d", e)
		}
	}
	if e := v.Set(nil, 0); e != api.ErrInvalid {
		t.Errorf("Set = %d", e)
	}
	if e := v.Mute(nil, 0); e != api.ErrInvalid {
		t.Errorf("Mute = %d", e)
	}
	for _, b := range append(invalidBlocks(), filled(1, 3, 1), filled(2, 0, 0)) {
		if out, e := v.Push(b); len(out) != 0 || e != api.ErrInvalid {
			t.Errorf("Push = %v, %d", out, e)
		}
	}
	if len(v.Gains()) != 0 || len(v.Now()) != 0 || v.Left() != 0 || v.Copy() != nil {
		t.Errorf("gains %v, now %v, left %d, copy %v", v.Gains(), v.Now(), v.Left(), v.Copy())
	}
}

// P6.1, R1: every call ends, and none panics, whatever it is given.
func TestAllCallsEnd(t *testing.T) {
	blocks := append(invalidBlocks(), filled(1, 0, 0), filled(1, 5, most), filled(8, api.MaxFrames, -most))
	numbers := []int{-1 << 63, -1, 0, 1, 8, 200, api.MaxFrames, one, top, most, api.MaxTime, 1 << 31, 1<<63 - 1}
	for _, a := range numbers {
		v, _ := volume.New(a)
		for _, v := range []*volume.Volume{v, begunWith(a), {}, nil} {
			for _, n := range numbers {
				v.Set(slices.Repeat([]int{n}, 1), a)
				v.Mute([]bool{n > 0}, a)
				v.Set(nil, n)
				v.Mute(nil, n)
				for _, b := range blocks {
					v.Push(b)
				}
				v.Copy().Gains()
				v.Now()
				v.Left()
			}
		}
		volume.Chain([]int{a, a})
		volume.Cubic(a)
		volume.Percent(a)
		for _, n := range numbers {
			volume.Steps(a, n, a)
			volume.Steps(a, a, n)
			for _, b := range blocks {
				volume.Apply(a, b)
				volume.Ramp(a, n, n, b)
				volume.Ramp(n, a, n, b)
				volume.Duck(b, blocks[len(blocks)-1], a, n)
				volume.Duck(blocks[len(blocks)-2], b, a, n)
			}
		}
	}
	for _, b := range blocks {
		volume.Mix([]api.Block{b})
		volume.Mix([]api.Block{blocks[len(blocks)-1], b})
	}
}

// begunWith is a Volume of one channel that is set, if it can be.
func begunWith(gain int) *volume.Volume {
	v, _ := volume.New(1)
	v.Set([]int{gain}, 3)
	return v
}
