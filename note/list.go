package note

import (
	"iter"
	"slices"

	"continuo/api"
)

// Sort orders events by frame; those of equal frames stay as they stand.
func Sort(l []api.Note) ([]api.Note, api.Errno) {
	return fitted(func() []api.Note {
		mustBeNotes(l)
		return slices.SortedStableFunc(slices.Values(l), byFrame)
	})
}

// Merge joins sorted lists: by frame, of equal frames by the order of the lists.
func Merge(l [][]api.Note) ([]api.Note, api.Errno) {
	return fitted(func() []api.Note {
		for _, list := range l {
			mustBeNotes(list)
		}
		count := 0
		for _, list := range l {
			mustBeSorted(list)
			count += len(list)
		}
		must(count <= maxNotes, api.ErrLimit)
		var out []api.Note
		for n := range merged(l) {
			out = append(out, n)
		}
		return out
	})
}

// merged yields the events of sorted lists, always the earliest one that is left.
func merged(l [][]api.Note) iter.Seq[api.Note] {
	return func(yield func(api.Note) bool) {
		// There may be very many empty lists; asking them for each event would take too long.
		left := slices.DeleteFunc(slices.Clone(l), isEmpty)
		for len(left) > 0 {
			i := earliest(left)
			if !yield(left[i][0]) {
				return
			}
			left[i] = left[i][1:]
			left = slices.DeleteFunc(left, isEmpty)
		}
	}
}

func isEmpty(l []api.Note) bool { return len(l) == 0 }

// earliest is the first one of the lists that begin earliest; none is empty.
func earliest(l [][]api.Note) int {
	out := 0
	for i, list := range l {
		if list[0].Frame < l[out][0].Frame {
			out = i
		}
	}
	return out
}

// Split cuts a list at from + length. The part is counted from `from`, and begins with what is late; the rest is as it was.
func Split(l []api.Note, from, length int) (part, rest []api.Note, e api.Errno) {
	_, e = fitted(func() struct{} {
		mustBeNotes(l)
		must(from >= 0 && length >= 0, api.ErrRange)
		mustBeSorted(l)
		for _, n := range l {
			// The difference is compared, since the sum might be beyond all numbers.
			if since := n.Frame - from; since >= length {
				rest = append(rest, n)
			} else {
				n.Frame = max(since, 0)
				part = append(part, n)
			}
		}
		return struct{}{}
	})
	return part, rest, e
}

// Shift moves all events by some frames.
func Shift(l []api.Note, by int) ([]api.Note, api.Errno) {
	return fitted(func() []api.Note {
		mustBeNotes(l)
		out := slices.Clone(l)
		for i, n := range l {
			must(fitsMoved(n.Frame, by, api.MaxTime), api.ErrRange)
			out[i].Frame += by
		}
		mustBeSorted(l)
		return out
	})
}

// fitsMoved reports whether a number (0 to most) that is moved is still one.
func fitsMoved(n, by, most int) bool { return by >= -n && by <= most-n }

// Channel are the events of a channel.
func Channel(l []api.Note, channel int) ([]api.Note, api.Errno) {
	return fitted(func() []api.Note {
		mustBeNotes(l)
		mustBeChannels(channel)
		return kept(l, func(n api.Note) bool { return isOf(n, channel) })
	})
}

// Map gives the events of a channel another one and moves their keys; those whose key is none then are left out.
func Map(l []api.Note, from, to, by int) ([]api.Note, api.Errno) {
	return fitted(func() []api.Note {
		mustBeNotes(l)
		mustBeChannels(from, to)
		out := kept(l, func(n api.Note) bool {
			return !isOf(n, from) || !hasKey(n) || fitsMoved(n.A, by, maxKey)
		})
		for i, n := range out {
			if !isOf(n, from) {
				continue
			}
			out[i].Channel = to
			if hasKey(n) {
				out[i].A += by
			}
		}
		return out
	})
}

// kept returns the events that fit.
func kept(l []api.Note, fits func(n api.Note) bool) []api.Note {
	var out []api.Note
	for _, n := range l {
		if fits(n) {
			out = append(out, n)
		}
	}
	return out
}

func isOf(n api.Note, channel int) bool { return n.Kind < api.NSystem && n.Channel == channel }

func hasKey(n api.Note) bool { return n.Kind <= api.NPress }

func mustBeChannels(l ...int) {
	for _, n := range l {
		must(upTo(n, maxChannel), api.ErrRange)
	}
}
