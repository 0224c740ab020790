package note_test

import (
	"slices"
	"strings"
	"testing"

	"continuo/api"
	"continuo/note"
)

// 10.1: each kind's bytes, written and read.
func TestBytes(t *testing.T) {
	for _, x := range examples() {
		for _, running := range []bool{false, true} {
			writes(t, "Encode", x.bytes)(note.Encode([]api.Note{x.note}, running))
			later := x.note
			later.Frame = 77
			writes(t, "Encode", x.bytes)(note.Encode([]api.Note{later}, running))
		}
		reads(t, "Decode", []api.Note{x.note}, -1)(note.Decode(x.bytes))
	}
	writes(t, "Encode", "")(note.Encode(nil, true))
	reads(t, "Decode", nil, -1)(note.Decode(""))
}

// 10.1, Examples: with running status a status byte is left out wherever it may be, and not elsewhere.
func TestRunning(t *testing.T) {
	program, other := api.Note{Kind: api.NProgram, Channel: 1, A: 5}, api.Note{Kind: api.NProgram, Channel: 2, A: 5}
	for _, c := range []struct {
		l    []api.Note
		want string
	}{
		{[]api.Note{on(0, 0, 60, 64), on(0, 0, 62, 64)}, "\x90\x3c\x40\x3e\x40"},
		{[]api.Note{program, program, program}, "\xc1\x05\x05\x05"},
		{[]api.Note{program, other, program}, "\xc1\x05\xc2\x05\xc1\x05"},
		{[]api.Note{on(0, 0, 60, 64), off(0, 0, 60, 0), off(0, 0, 61, 1)}, "\x90\x3c\x40\x80\x3c\x00\x3d\x01"},
		{[]api.Note{program, clock(0, 0), program, clock(0, 7), clock(0, 1), program}, "\xc1\x05\xf8\x05\xff\xf9\x05"},
		{[]api.Note{clock(0, 2), program, clock(0, 2), other}, "\xfa\xc1\x05\xfa\xc2\x05"},
		{[]api.Note{program, system(0, "a"), program, program}, "\xc1\x05\xf0a\xf7\xc1\x05\x05"},
		{[]api.Note{system(0, ""), system(0, ""), clock(0, 0), system(0, "")}, "\xf0\xf7\xf0\xf7\xf8\xf0\xf7"},
	} {
		writes(t, "Encode", c.want)(note.Encode(c.l, true))
		reads(t, "Decode", c.l, -1)(note.Decode(c.want))
		full := ""
		for _, n := range c.l {
			full += bytesOf(n)
		}
		writes(t, "Encode", full)(note.Encode(c.l, false))
		reads(t, "Decode", c.l, -1)(note.Decode(full))
	}
}

// 10.1: whatever is written is as the chapter tells it, and frames need not go on.
func TestEncode(t *testing.T) {
	for seed := range 2000 {
		d := draws(seed)
		l := d.notes(d.below(40))
		for _, running := range []bool{false, true} {
			writes(t, "Encode", encoded(l, running))(note.Encode(l, running))
		}
	}
}

// 10.1: bytes of clocks stand anywhere; each is an event ahead of the one in which it stands.
func TestClocks(t *testing.T) {
	for _, c := range []struct {
		s    string
		want []api.Note
	}{
		{"\x90\xf8\x3c\xfa\x40", []api.Note{clock(0, 0), clock(0, 2), on(0, 0, 60, 64)}},
		{"\x90\x3c\x40\xff\x3d\xf9\x41\x3e\x42", []api.Note{on(0, 0, 60, 64), clock(0, 7), clock(0, 1), on(0, 0, 61, 65), on(0, 0, 62, 66)}},
		{"\xf0\xf8\x01\xf9\x02\xfa\xf7", []api.Note{clock(0, 0), clock(0, 1), clock(0, 2), system(0, "\x01\x02")}},
		{"\xc0\xfe\x05", []api.Note{clock(0, 6), {Kind: api.NProgram, A: 5}}},
	} {
		reads(t, "Decode", c.want, -1)(note.Decode(c.s))
	}
}

// 10.1: an On with B 0 is read as an Off; the running status stays that of an On.
func TestSilentOn(t *testing.T) {
	want := []api.Note{off(0, 1, 60, 0), on(0, 1, 61, 1), off(0, 1, 61, 0), off(0, 1, 61, 5)}
	reads(t, "Decode", want, -1)(note.Decode("\x91\x3c\x00\x3d\x01\x3d\x00\x81\x3d\x05"))
	writes(t, "Encode", "\x81\x3c\x00\x91\x3d\x01\x81\x3d\x00\x3d\x05")(note.Encode(want, true))
}

// 10.1: where bytes are wrong Decode tells the place, with the events ahead of it.
func TestDecodeWrong(t *testing.T) {
	first := []api.Note{on(0, 0, 60, 64)}
	text := strings.Repeat("a", textMost)
	for _, c := range []struct {
		s    string
		at   int
		want []api.Note
	}{
		{"\x00", 0, nil}, {"\x7f\x01\x02", 0, nil},
		{"\xf1", 0, nil}, {"\xf2\x01", 0, nil}, {"\xf3", 0, nil}, {"\xf4", 0, nil}, {"\xf5", 0, nil}, {"\xf6", 0, nil}, {"\xf7", 0, nil},
		{"\x90\x3c\x40\xf6", 3, first}, {"\x90\x3c\x40\xf7", 3, first}, {"\x90\x3c\x40\xf1\x3c", 3, first},
		{"\x90\x80\x3c\x40", 1, nil}, {"\x90\x90", 1, nil}, {"\x90\x3c\xef", 2, nil}, {"\x90\x3c\xf0", 2, nil},
		{"\x90\x3c\xf6", 2, nil}, {"\x90\x3c\xf7", 2, nil}, {"\x90\x3c\x40\x3d\x90\x3c\x40", 4, first}, {"\xc0\xc0", 1, nil},
		{"\xf0\x01\x80", 2, nil}, {"\xf0\xef", 1, nil}, {"\xf0\xf0\xf7", 1, nil}, {"\xf0\xf1", 1, nil}, {"\xf0a\xf6", 2, nil},
		{"\xf0" + text + "a\xf7", 201, nil}, {"\xf0\xf8" + text + "\xf8aa", 203, []api.Note{clock(0, 0), clock(0, 0)}},
		{"\x90\x3c\x40\xf0\xf7\x3c\x40", 5, []api.Note{first[0], system(0, "")}},
		{"\x90", 1, nil}, {"\x90\x3c", 2, nil}, {"\x90\x3c\x40\x3d", 4, first}, {"\xc0", 1, nil}, {"\xf0", 1, nil}, {"\xf0ab", 3, nil},
		{"\x90\xf8\x3c\xf9", 4, []api.Note{clock(0, 0), clock(0, 1)}},
		{"\x90\xf8\x3c\xf9\x90\xfa", 4, []api.Note{clock(0, 0), clock(0, 1)}},
	} {
		reads(t, "Decode", c.want, c.at)(note.Decode(c.s))
	}
	for b := range 128 {
		reads(t, "Decode", nil, 0)(note.Decode(string([]byte{byte(b), 1, 1})))
	}
	for b := 0x80; b < 0xf8; b++ {
		reads(t, "Decode", first, 5)(note.Decode("\x90\x3c\x40\xb0\x01" + string([]byte{byte(b)}) + "\x01"))
	}
}

// 10.1: whatever bytes come, all is read as the chapter tells it.
func TestDecode(t *testing.T) {
	for seed := range 20000 {
		d := draws(seed)
		s := d.bytes(d.below(60))
		want, at := decoded(s)
		reads(t, "Decode", want, at)(note.Decode(s))
	}
}

// 10.1: all bytes up to three long, of a few ones.
func TestDecodeAll(t *testing.T) {
	few := []byte("\x00\x7f\x80\x90\xc5\xef\xf0\xf1\xf6\xf7\xf8\xff")
	texts := []string{""}
	for i := 0; i < len(texts); i++ {
		want, at := decoded(texts[i])
		reads(t, "Decode", want, at)(note.Decode(texts[i]))
		if len(texts[i]) < 4 {
			for _, b := range few {
				texts = append(texts, texts[i]+string([]byte{b}))
			}
		}
	}
}

// 10.1, Details: more than 65,536 bytes are ErrLong; as many are not, also of what comes out.
func TestLong(t *testing.T) {
	unit := "\xf0" + strings.Repeat("a", 126) + "\xf7"
	full := strings.Repeat(unit, byteMost/128)
	var l []api.Note
	for range byteMost / 128 {
		l = append(l, system(0, strings.Repeat("a", 126)))
	}
	reads(t, "Decode", l, -1)(note.Decode(full))
	readsNot(t, "Decode", api.ErrLong)(note.Decode(full + "\xf8"))
	readsNot(t, "Decode", api.ErrLong)(note.Decode("\x00" + full))
	for _, running := range []bool{false, true} {
		writes(t, "Encode", full)(note.Encode(l, running))
		writesNot(t, "Encode", api.ErrLong)(note.Encode(append(slices.Clone(l), clock(0, 0)), running))
		writesNot(t, "Encode", api.ErrLong)(note.Encode(slices.Repeat([]api.Note{system(0, strings.Repeat("a", textMost))}, noteMost), running))
	}
}

// Details: Decode of more than 2,000 events is ErrLimit; a byte that is wrong is named ahead of that.
func TestDecodeLimit(t *testing.T) {
	for _, c := range []struct {
		s    string
		want []api.Note
	}{
		{"\xf8", []api.Note{clock(0, 0)}},
		{"\xf0\xf7", []api.Note{system(0, "")}},
		{"\x90\x3c\x01", []api.Note{on(0, 0, 60, 1)}},
	} {
		reads(t, "Decode", slices.Repeat(c.want, noteMost), -1)(note.Decode(strings.Repeat(c.s, noteMost)))
		readsNot(t, "Decode", api.ErrLimit)(note.Decode(strings.Repeat(c.s, noteMost+1)))
		readsNot(t, "Decode", api.ErrLimit)(note.Decode(strings.Repeat(c.s, byteMost/len(c.s))))
		many := strings.Repeat(c.s, noteMost+5)
		reads(t, "Decode", slices.Repeat(c.want, noteMost+5), len(many))(note.Decode(many + "\xf1"))
		reads(t, "Decode", slices.Repeat(c.want, noteMost), len(c.s)*noteMost+1)(note.Decode(strings.Repeat(c.s, noteMost) + "\xc0"))
	}
}
