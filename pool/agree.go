package pool

import (
	"cmp"
	"slices"

	"continuo/api"
)

// point is a part of a deal that two wishes settle, and the error where they can't.
type point struct {
	settle func(d *deal, a, b api.Want) bool
	e      api.Errno
}

// points are settled in this order.
func points(prefer int) [6]point {
	return [...]point{
		{settleBlocks, api.ErrKind},
		{settleStride, api.ErrKind},
		{settleKind, api.ErrKind},
		{func(d *deal, a, b api.Want) bool { return settleCount(d, a, b, prefer) }, api.ErrSize},
		{settleSize, api.ErrLimit},
		{settleAlign, api.ErrLimit},
	}
}

// Agree makes a deal that does for both wishes.
func Agree(a, b api.Want, prefer int) (api.Deal, api.Errno) {
	return fitted(func() api.Deal {
		mustBeWish(a)
		mustBeWish(b)
		must(within(prefer, 0, maxBuffers), api.ErrRange)
		var d deal
		for _, p := range points(prefer) {
			must(p.settle(&d, a, b), p.e)
		}
		return api.Deal(d)
	})
}

func settleBlocks(d *deal, a, b api.Want) bool {
	d.Blocks = a.Blocks
	return a.Blocks == b.Blocks
}

func settleStride(d *deal, a, b api.Want) bool {
	d.Stride = a.Stride
	return a.Stride == b.Stride
}

func settleKind(d *deal, a, b api.Want) (ok bool) {
	d.Kind, ok = leastCommon(0, kinds(a), kinds(b))
	return ok
}

// settleCount takes the greatest number where all are below the one that is preferred.
func settleCount(d *deal, a, b api.Want, prefer int) (ok bool) {
	if d.Count, ok = leastCommon(prefer, counts(a), counts(b)); ok {
		return true
	}
	d.Count = min(a.Most, b.Most)
	return d.Count >= max(a.Least, b.Least)
}

// settleSize needs the stride, which is settled ahead of it.
func settleSize(d *deal, a, b api.Want) bool {
	d.Size = multiple(max(a.Size, b.Size), d.Stride)
	return d.Size <= maxSize
}

// settleAlign is the last one, so that the whole can be laid.
func settleAlign(d *deal, a, b api.Want) bool {
	d.Align = max(a.Align, b.Align)
	return d.end(0) <= maxMemory
}

// leastCommon returns the least one from a bound on that is in both lists, which ascend.
func leastCommon[T cmp.Ordered](from T, a, b []T) (least T, ok bool) {
	for _, x := range a {
		if x >= from && slices.Contains(b, x) {
			return x, true
		}
	}
	return least, false
}

// Fits reports whether a deal does for a wish.
func Fits(d api.Deal, w api.Want) (bool, api.Errno) {
	return fitted(func() bool {
		mustBeDeal(d)
		mustBeWish(w)
		return within(d.Count, w.Least, w.Most) && d.Blocks == w.Blocks && d.Stride == w.Stride &&
			d.Size >= w.Size && d.Align >= w.Align && slices.Contains(kinds(w), d.Kind)
	})
}
