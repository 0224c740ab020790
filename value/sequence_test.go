package value_test

import (
	"testing"

	"continuo/api"
	"continuo/value"
)

// tune is a sequence with equal times, and controls at both ends.
func tune() api.Value {
	return sequence([]int{0, 3, 3, 8, 8, api.MaxTime}, integers(1, 2, 3, 4, 5, 6)...)
}

func TestAt(t *testing.T) {
	for _, x := range []struct {
		time int
		want []api.Value
	}{
		{0, integers(1)}, {3, integers(2, 3)}, {8, integers(4, 5)}, {api.MaxTime, integers(6)},
		{1, nil}, {7, nil}, {-1, nil}, {api.MaxTime + 1, nil}, {-1 << 63, nil}, {1<<63 - 1, nil},
	} {
		got, e := value.At(tune(), x.time)
		if !value.Same(record(got...), record(x.want...)) || e != api.OK {
			t.Errorf("At(%d) = %v, %d", x.time, got, e)
		}
	}
	for _, v := range []api.Value{none(), record(), object(1, []int{3}, none())} {
		if got, e := value.At(v, 3); len(got) > 0 || e != api.ErrKind {
			t.Errorf("At of %v = %v, %d", v, got, e)
		}
	}
}

func TestCut(t *testing.T) {
	for _, x := range []struct {
		from, to int
		want     api.Value
		e        api.Errno
	}{
		{0, api.MaxTime, sequence([]int{0, 3, 3, 8, 8}, integers(1, 2, 3, 4, 5)...), api.OK},
		{3, 8, sequence([]int{0, 0}, integers(2, 3)...), api.OK},
		{2, 9, sequence([]int{1, 1, 6, 6}, integers(2, 3, 4, 5)...), api.OK},
		{4, 8, sequence(nil), api.OK},
		{3, 3, sequence(nil), api.OK},
		{0, 0, sequence(nil), api.OK},
		{0, 1, sequence([]int{0}, integer(1)), api.OK},
		{api.MaxTime, api.MaxTime, sequence(nil), api.OK},
		{-1, 3, api.Value{}, api.ErrRange},
		{4, 3, api.Value{}, api.ErrRange},
		{0, api.MaxTime + 1, api.Value{}, api.ErrRange},
		{api.MaxTime + 1, api.MaxTime + 1, api.Value{}, api.ErrRange},
		{-2, -1, api.Value{}, api.ErrRange},
	} {
		if v, e := value.Cut(tune(), x.from, x.to); !value.Same(v, x.want) || e != x.e {
			t.Errorf("Cut from %d to %d = %v, %d", x.from, x.to, v, e)
		}
	}
	for _, v := range []api.Value{none(), list(), object(1, []int{3}, none())} {
		if got, e := value.Cut(v, 5, 3); !isZero(got) || e != api.ErrKind {
			t.Errorf("Cut of %v = %v, %d", v, got, e)
		}
	}
}

// Two parts of a sequence that meet have together all that the whole has before MaxTime.
func TestCutParts(t *testing.T) {
	for _, v := range append(drawn(9, 500), tune()) {
		if v.Kind != api.VSequence {
			continue
		}
		whole, _ := value.Cut(v, 0, api.MaxTime)
		for _, at := range []int{0, 1, 2, 3, 4, 8, 9, api.MaxTime} {
			a, e := value.Cut(v, 0, at)
			b, f := value.Cut(v, at, api.MaxTime)
			joined := sequence(a.Keys, append(a.Kids, b.Kids...)...)
			for _, time := range b.Keys {
				joined.Keys = append(joined.Keys, time+at)
			}
			if !value.Same(joined, whole) || e != api.OK || f != api.OK {
				t.Errorf("%v cut at %d: %v, %d and %v, %d", v, at, a, e, b, f)
			}
		}
	}
}
