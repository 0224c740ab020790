package note_test

import (
	"slices"
	"testing"

	"continuo/api"
	"continuo/note"
)

// P10.2, P8: Decode(Encode(l, running)) are the events with the frame 0, whether running or not.
func TestBack(t *testing.T) {
	for seed := range 3000 {
		d := draws(seed)
		l := d.notes(d.below(80))
		want := slices.Clone(l)
		for i := range want {
			want[i].Frame = 0
		}
		for _, running := range []bool{false, true} {
			s, e := note.Encode(l, running)
			if e != api.OK {
				t.Fatalf("Encode(%v) = %d", l, e)
			}
			reads(t, "Decode", want, -1)(note.Decode(s))
		}
	}
}

// P10.2, P8: Unpack(Pack(l)) is l, and Unpack reads only what Pack writes.
func TestPackedBack(t *testing.T) {
	for seed := range 3000 {
		d := draws(seed)
		l := d.line(d.below(80))
		s, e := note.Pack(l)
		if e != api.OK || s != packed(l) {
			t.Fatalf("Pack(%v) = %x, %d", l, s, e)
		}
		reads(t, "Unpack", l, -1)(note.Unpack(s))
	}
	for seed := range 100000 {
		d := draws(seed)
		s := "\x00" + d.bytes(1+d.below(12))
		if l, _, e := note.Unpack(s); e == api.OK {
			writes(t, "Pack", s)(note.Pack(l))
		}
	}
}

// P8: the first wrong byte is the first one behind which nothing makes the bytes right, whatever comes.
func TestFirstWrong(t *testing.T) {
	for seed := range 3000 {
		d := draws(seed)
		s := d.bytes(d.below(40))
		l, at, e := note.Decode(s)
		if e != api.ErrData {
			continue
		}
		reads(t, "Decode", l, at)(note.Decode(s[:at] + s[at:min(at+1, len(s))]))
		mended := false
		for _, tail := range []string{"", "\x01", "\x01\x01", "\xf7"} {
			if back, _, e := note.Decode(s[:at] + tail); e == api.OK && slices.Equal(back[:len(l)], l) {
				mended = true
			}
			if at == len(s) {
				continue
			}
			if _, place, _ := note.Decode(s[:at+1] + tail); place != at {
				t.Fatalf("Decode(%x) tells %d, not %d", s[:at+1]+tail, place, at)
			}
		}
		if !mended {
			t.Fatalf("%x is wrong ahead of %d", s, at)
		}
	}
}

// P10.3: however bytes are cut, a reader tells the same events, but for their frames.
func TestPieces(t *testing.T) {
	for seed := range 5000 {
		d := draws(seed)
		s := d.bytes(d.below(300))
		whole, cut := note.NewReader(), note.NewReader()
		want := fed(t, whole, 0, s)
		var got []api.Note
		frame := 0
		for _, piece := range d.pieces(s) {
			l := fed(t, cut, frame, piece)
			for i := range l {
				if l[i].Frame != frame {
					t.Fatalf("Feed(%d) = %v", frame, l)
				}
				l[i].Frame = 0
			}
			got = append(got, l...)
			frame += d.below(5)
		}
		if !slices.Equal(got, want) {
			t.Fatalf("%x: cut %v, at once %v", s, got, want)
		}
		agree(t, cut, whole.Pending(), whole.Skipped())
	}
}

// P10.3: of right bytes a reader tells the events of Decode, and leaves out nothing.
func TestRightPieces(t *testing.T) {
	for seed := range 2000 {
		d := draws(seed)
		l := d.notes(d.below(100))
		for i := range l {
			l[i].Frame = 0
		}
		s, _ := note.Encode(l, d.below(2) == 0)
		decoded, _, _ := note.Decode(s)
		r := note.NewReader()
		var got []api.Note
		for _, piece := range d.pieces(s) {
			got = append(got, fed(t, r, 0, piece)...)
		}
		if !slices.Equal(got, decoded) || !slices.Equal(got, l) {
			t.Fatalf("%x: %v, not %v", s, got, l)
		}
		agree(t, r, 0, 0)
	}
}

// P10.4: Split's part and rest are all events.
func TestSplitAll(t *testing.T) {
	for seed := range 3000 {
		d := draws(seed)
		l := d.line(d.below(50))
		from, length := d.below(30), d.below(60)
		part, rest, e := note.Split(l, from, length)
		if len(part)+len(rest) != len(l) || e != api.OK {
			t.Fatalf("Split(%d, %d) = %v, %v, %d", from, length, part, rest, e)
		}
		for i, n := range l {
			if i < len(part) {
				n.Frame = max(n.Frame-from, 0)
				if n != part[i] || n.Frame >= max(length, 1) {
					t.Fatalf("Split(%d, %d) = %v of %v", from, length, part, l)
				}
				continue
			}
			if n != rest[i-len(part)] || n.Frame < from+length {
				t.Fatalf("Split(%d, %d) leaves %v of %v", from, length, rest, l)
			}
		}
	}
}

// P10.4: split in pieces and merged, each shifted back, a list is what it was, if none is before the first one.
func TestSplitMerged(t *testing.T) {
	for seed := range 3000 {
		d := draws(seed)
		l := d.line(d.below(50))
		from, rest := 0, l
		if len(l) > 0 {
			from = d.below(l[0].Frame + 1)
		}
		most := []int{4, 50, 100000}[d.below(3)]
		var pieces [][]api.Note
		for range 8 {
			length := d.below(most)
			part, later, e := note.Split(rest, from, length)
			if e != api.OK {
				t.Fatalf("Split(%d, %d) = %d", from, length, e)
			}
			back, e := note.Shift(part, from)
			if e != api.OK {
				t.Fatalf("Shift(%d) = %d", from, e)
			}
			pieces = append(pieces, back)
			from, rest = from+length, later
		}
		gives(t, "Merge", l...)(note.Merge(append(pieces, rest)))
	}
}

// P10.5: nothing of End's list hangs; Held at the last frame or later is what hangs.
func TestEnded(t *testing.T) {
	for seed := range 3000 {
		d := draws(seed)
		l := d.line(d.below(60))
		last := 0
		if len(l) > 0 {
			last = l[len(l)-1].Frame
		}
		frame := last + d.below(3)*d.below(1000)
		ended, e := note.End(l, frame)
		if e != api.OK || !slices.Equal(ended[:len(l)], l) {
			t.Fatalf("End(%v, %d) = %v, %d", l, frame, ended, e)
		}
		gives(t, "Hanging")(note.Hanging(ended))
		gives(t, "Held")(note.Held(ended, frame))
		hang, _ := note.Hanging(l)
		if len(ended) != len(l)+len(hang) {
			t.Fatalf("End(%v) = %v, of which hung %v", l, ended, hang)
		}
		for _, frame := range []int{last, frame, api.MaxTime} {
			gives(t, "Held", byKey(hang)...)(note.Held(l, frame))
		}
	}
}

// P10.6: Merge of sorted lists is Sort of the lists one behind the other.
func TestMerged(t *testing.T) {
	for seed := range 3000 {
		d := draws(seed)
		var lists [][]api.Note
		var all []api.Note
		for range d.below(7) {
			l := sorted(d.notes(d.below(20)))
			lists = append(lists, l)
			all = append(all, l...)
		}
		want, e := note.Sort(all)
		if e != api.OK {
			t.Fatalf("Sort(%v) = %d", all, e)
		}
		gives(t, "Merge", want...)(note.Merge(lists))
	}
}
