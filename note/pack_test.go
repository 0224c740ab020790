package note_test

import (
	"slices"
	"strings"
	"testing"

	"continuo/api"
	"continuo/note"
)

// 10.5: each event behind how many frames it is later than the one before, without running status.
func TestPack(t *testing.T) {
	for _, x := range examples() {
		n := x.note
		for frame, number := range map[int]string{
			0: "\x00", 1: "\x01", 127: "\x7f", 128: "\x81\x00", 129: "\x81\x01", 200: "\x81\x48", 16383: "\xff\x7f",
			16384: "\x81\x80\x00", 2097151: "\xff\xff\x7f", 2097152: "\x81\x80\x80\x00", 268435455: "\xff\xff\xff\x7f",
			268435456: "\x81\x80\x80\x80\x00", api.MaxTime: "\x83\xdc\xeb\x94\x00",
		} {
			n.Frame = frame
			want := number + x.bytes
			writes(t, "Pack", want)(note.Pack([]api.Note{n}))
			reads(t, "Unpack", []api.Note{n}, -1)(note.Unpack(want))
			writes(t, "Pack", want+"\x00"+x.bytes)(note.Pack([]api.Note{n, n}))
			reads(t, "Unpack", []api.Note{n, n}, -1)(note.Unpack(want + "\x00" + x.bytes))
		}
	}
	l := []api.Note{on(3, 0, 60, 1), on(3, 0, 61, 1), clock(5, 0), on(205, 0, 62, 1)}
	want := "\x03\x90\x3c\x01\x00\x90\x3d\x01\x02\xf8\x81\x48\x90\x3e\x01"
	writes(t, "Pack", want)(note.Pack(l))
	reads(t, "Unpack", l, -1)(note.Unpack(want))
	writes(t, "Pack", "")(note.Pack(nil))
	reads(t, "Unpack", nil, -1)(note.Unpack(""))
	writesNot(t, "Pack", api.ErrState)(note.Pack(backwards()))
}

// 10.5: where bytes are wrong Unpack tells the place, and no events.
func TestUnpackWrong(t *testing.T) {
	text := strings.Repeat("a", textMost)
	most := "\x83\xdc\xeb\x94\x00"
	for _, c := range []struct {
		s  string
		at int
	}{
		{"\x80", 0}, {"\x80\x01\xf8", 0}, {"\x00\xf8\x80\x01\xf8", 2},
		{"\xff\xff\xff\xff\xff", 0}, {"\xff\xff\xff\xff\xff\x01\xf8", 0}, {"\x81\x80\x80\x80\x80\x00\xf8", 0},
		{"\x83\xdc\xeb\x94\x01\xf8", 0}, {"\xff\xff\xff\xff\x7f\xf8", 0}, {"\x83\xdc\xeb\x94\x01", 0},
		{most + "\xf8\x01\xf8", 6}, {"\x01\xf8" + most + "\xf8", 2}, {most + "\xf8\x00\xf8\x83\x00\xf8", 8},
		{"\x00", 1}, {"\x81", 1}, {"\xff\xff", 2}, {"\xff\xff\xff\xff", 4}, {"\x00\xf8\x00", 3}, {"\x00\xf8\x81", 3},
		{"\x00\x00", 1}, {"\x00\x3c\x40", 1}, {"\x00\x90\x3c\x40\x00\x3d\x40", 5},
		{"\x00\xf1", 1}, {"\x00\xf2\x00", 1}, {"\x00\xf3", 1}, {"\x00\xf4", 1}, {"\x00\xf5", 1}, {"\x00\xf6", 1}, {"\x00\xf7", 1},
		{"\x00\x90", 2}, {"\x00\x90\x3c", 3}, {"\x00\xc0", 2}, {"\x00\xf0", 2}, {"\x00\xf0ab", 4},
		{"\x00\x90\x80", 2}, {"\x00\x90\x90", 2}, {"\x00\x90\x3c\xf0", 3}, {"\x00\x90\x3c\xf7", 3}, {"\x00\xc0\xff", 2},
		{"\x00\x90\xf8\x3c\x40", 2}, {"\x00\x90\x3c\xf8\x40", 3}, {"\x00\xf0a\xf8\xf7", 3}, {"\x00\xf0\xff\xf7", 2},
		{"\x00\x90\x3c\x00", 3}, {"\x00\x9f\x3c\x00\x00\xf8", 3}, {"\x00\xf8\x05\x95\x00\x00", 5},
		{"\x00\xf0\xf0", 2}, {"\x00\xf0\x80", 2}, {"\x00\xf0" + text + "a\xf7", 202}, {"\x00\xf0" + text + "\xf1", 202}, {"\x00\xf0" + text, 202},
		{"\x00\xf0\xf7\xf7", 4}, {"\x00\xf8\xf8", 3}, {"\x00\xf8\xf8\x00", 4},
	} {
		reads(t, "Unpack", nil, c.at)(note.Unpack(c.s))
	}
}

// 10.5: whatever bytes come, all is read as the chapter tells it.
func TestUnpack(t *testing.T) {
	right := 0
	for seed := range 30000 {
		d := draws(seed)
		s := packed(d.line(d.below(8)))
		for range d.below(3) {
			at := d.below(len(s) + 1)
			switch d.below(3) {
			case 0:
				s = s[:at]
			case 1:
				s = s[:at] + d.bytes(1+d.below(2)) + s[at:]
			case 2:
				s = s[:at] + d.bytes(1) + s[min(at+1, len(s)):]
			}
		}
		want, at := unpacked(s)
		if at < 0 {
			right++
		}
		reads(t, "Unpack", want, at)(note.Unpack(s))
	}
	if right < 3000 || right > 27000 {
		t.Errorf("%d of them are right", right)
	}
}

// 10.5: all bytes up to five long, of a few ones.
func TestUnpackAll(t *testing.T) {
	few := []byte("\x00\x05\x80\x81\x90\xc5\xf0\xf7\xf8\xff")
	texts := []string{""}
	for i := 0; i < len(texts); i++ {
		s := texts[i]
		want, at := unpacked(s)
		reads(t, "Unpack", want, at)(note.Unpack(s))
		if at < 0 {
			writes(t, "Pack", s)(note.Pack(want))
		}
		if len(s) < 5 {
			for _, b := range few {
				texts = append(texts, s+string([]byte{b}))
			}
		}
	}
}

// Details: more than 65,536 bytes are ErrLong, also of what comes out, behind ErrState.
func TestPackLong(t *testing.T) {
	text := strings.Repeat("a", 125)
	full := strings.Repeat("\x00\xf0"+text+"\xf7", byteMost/128)
	l := slices.Repeat([]api.Note{system(0, text)}, byteMost/128)
	writes(t, "Pack", full)(note.Pack(l))
	reads(t, "Unpack", l, -1)(note.Unpack(full))
	readsNot(t, "Unpack", api.ErrLong)(note.Unpack(full + "\x00"))
	readsNot(t, "Unpack", api.ErrLong)(note.Unpack("\x80" + full))
	writesNot(t, "Pack", api.ErrLong)(note.Pack(append(slices.Clone(l), clock(0, 0))))
	later := slices.Clone(l)
	for i := range later {
		later[i].Frame = 128
	}
	writesNot(t, "Pack", api.ErrLong)(note.Pack(later))
	long := slices.Repeat([]api.Note{system(9, strings.Repeat("a", textMost))}, noteMost)
	writesNot(t, "Pack", api.ErrLong)(note.Pack(long))
	long[noteMost-1].Frame = 8
	writesNot(t, "Pack", api.ErrState)(note.Pack(long))
}

// Details: Unpack of more than 2,000 events is ErrLimit; a byte that is wrong is named ahead of that.
func TestUnpackLimit(t *testing.T) {
	s := strings.Repeat("\x00\xf8", noteMost)
	reads(t, "Unpack", slices.Repeat([]api.Note{clock(0, 0)}, noteMost), -1)(note.Unpack(s))
	readsNot(t, "Unpack", api.ErrLimit)(note.Unpack(s + "\x00\xf8"))
	readsNot(t, "Unpack", api.ErrLimit)(note.Unpack(strings.Repeat("\x00\xf8", byteMost/2)))
	reads(t, "Unpack", nil, 2*noteMost+3)(note.Unpack(s + "\x00\xf8\x00"))
	reads(t, "Unpack", nil, 2*noteMost)(note.Unpack(s + "\x80\x00\xf8"))
}
