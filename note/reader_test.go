package note_test

import (
	"slices"
	"strings"
	"testing"

	"continuo/api"
	"continuo/note"
)

// 10.2: an event has the frame that was told with the byte that ended it.
func TestFeed(t *testing.T) {
	r := note.NewReader()
	agree(t, r, 0, 0)
	gives(t, "Feed")(r.Feed(5, "\x90\x3c"))
	agree(t, r, 2, 0)
	gives(t, "Feed", clock(7, 1))(r.Feed(7, "\xf9"))
	agree(t, r, 2, 0)
	gives(t, "Feed", on(9, 0, 60, 64))(r.Feed(9, "\x40\x3d"))
	agree(t, r, 1, 0)
	gives(t, "Feed", on(9, 0, 61, 65), on(9, 0, 62, 66))(r.Feed(9, "\x41\x3e\x42"))
	agree(t, r, 0, 0)
	gives(t, "Feed")(r.Feed(9, ""))
	gives(t, "Feed")(r.Feed(10, "\xf0ab"))
	agree(t, r, 3, 0)
	gives(t, "Feed", clock(11, 0), clock(11, 7))(r.Feed(11, "\xf8c\xff"))
	agree(t, r, 4, 0)
	gives(t, "Feed", system(api.MaxTime, "abc"), off(api.MaxTime, 2, 1, 0))(r.Feed(api.MaxTime, "\xf7\x92\x01\x00"))
	agree(t, r, 0, 0)
}

// 10.2, Details: what is wrong is left out, with what was begun; Pending and Skipped count the bytes.
func TestFeedWrong(t *testing.T) {
	text := strings.Repeat("a", textMost)
	program := api.Note{Kind: api.NProgram, A: 5}
	for _, c := range []struct {
		s                string
		pending, skipped int
		want             []api.Note
	}{
		{"\x01\x02\x03", 0, 3, nil},
		{"\xf1\xf7\xf6", 0, 3, nil},
		{"\xc0\x05\xf7\x05\x05", 0, 3, []api.Note{program}},
		{"\xc0\x05\xf1\x05\xc0\x05", 0, 2, []api.Note{program, program}},
		{"\x90\x01\xf4\x02\x03", 0, 5, nil},
		{"\x90\x01\xf7\x02\x03", 0, 5, nil},
		{"\x90\xf7", 0, 2, nil},
		{"\x90\x01\xc0\x05", 0, 2, []api.Note{program}},
		{"\x90\xc0", 1, 1, nil},
		{"\x90\x90\x90\x90", 1, 3, nil},
		{"\xc0\x05\x05\xc1", 1, 0, []api.Note{program, program}},
		{"\x90\x01\x02\x03\x90", 1, 1, []api.Note{on(0, 0, 1, 2)}},
		{"\x90\x01\x02\x03\xf0", 1, 1, []api.Note{on(0, 0, 1, 2)}},
		{"\x90\x01\x02\x03\xf0\xf7", 0, 1, []api.Note{on(0, 0, 1, 2), system(0, "")}},
		{"\x90\x01\x02\x03\xf7\x05\x06", 0, 4, []api.Note{on(0, 0, 1, 2)}},
		{"\xf0abc\x90\x01", 2, 4, nil},
		{"\xf0abc\xf0d", 2, 4, nil},
		{"\xf0abc\xf1d\xf7", 0, 7, nil},
		{"\xf0\xf8ab\xf9\xf2", 0, 4, []api.Note{clock(0, 0), clock(0, 1)}},
		{"\xf0" + text, 201, 0, nil},
		{"\xf0" + text + "\xf7", 0, 0, []api.Note{system(0, text)}},
		{"\xf0" + text + "a", 0, 202, nil},
		{"\xf0" + text + "aaa\xf7\xc0\x05", 0, 205, []api.Note{program}},
		{"\xf0" + text + "\xc0\x05", 0, 201, []api.Note{program}},
		{"\xc0\x05\xf0\xf7\x05", 0, 1, []api.Note{program, system(0, "")}},
		{"\xc0\x05\xf8\x05", 0, 0, []api.Note{program, clock(0, 0), program}},
	} {
		r := note.NewReader()
		gives(t, "Feed", c.want...)(r.Feed(0, c.s))
		agree(t, r, c.pending, c.skipped)
		apart := note.NewReader()
		for i := range len(c.s) {
			fed(t, apart, i, c.s[i:i+1])
		}
		agree(t, apart, c.pending, c.skipped)
	}
}

// 10.2: whatever bytes come, in whatever pieces, all is read as the chapter tells it.
func TestReader(t *testing.T) {
	for seed := range 5000 {
		d := draws(seed)
		r, m, frame := note.NewReader(), &told{}, 0
		for _, piece := range d.pieces(d.bytes(d.below(200))) {
			frame += d.below(3)
			gives(t, "Feed", m.feed(frame, piece)...)(r.Feed(frame, piece))
			agree(t, r, m.pending(), m.skipped)
		}
	}
}

// 10.2: a text is at most 200 bytes long, in pieces too.
func TestFeedText(t *testing.T) {
	for n := 190; n < 210; n++ {
		r, m := note.NewReader(), &told{}
		s := "\xf0" + strings.Repeat("ab", 110)[:n] + "\xf7\x90\x01\x02"
		for i := 0; i < len(s); i += 7 {
			piece := s[i:min(i+7, len(s))]
			gives(t, "Feed", m.feed(i, piece)...)(r.Feed(i, piece))
			agree(t, r, m.pending(), m.skipped)
		}
	}
}

// 10.2, R9: errors of Feed; nothing changes with them.
func TestFeedErrors(t *testing.T) {
	r := note.NewReader()
	fed(t, r, 10, "\x01\x90\x3c")
	for _, frame := range append(extremes(), 0, 9) {
		refuses(t, "Feed", api.ErrRange)(r.Feed(frame, "\x40"))
		refuses(t, "Feed", api.ErrRange)(r.Feed(frame, ""))
		refuses(t, "Feed", api.ErrLong)(r.Feed(frame, strings.Repeat("\x40", byteMost+1)))
	}
	refuses(t, "Feed", api.ErrLong)(r.Feed(500, strings.Repeat("\x40", byteMost+1)))
	agree(t, r, 2, 1)
	gives(t, "Feed", on(10, 0, 60, 64))(r.Feed(10, "\x40"))
	gives(t, "Feed")(r.Feed(20, ""))
	refuses(t, "Feed", api.ErrRange)(r.Feed(19, ""))
	gives(t, "Feed", clock(api.MaxTime, 0))(r.Feed(api.MaxTime, "\xf8"))
	refuses(t, "Feed", api.ErrRange)(r.Feed(api.MaxTime-1, "\xf8"))
	for _, frame := range []int{-1, api.MaxTime + 1} {
		refuses(t, "Feed", api.ErrRange)(note.NewReader().Feed(frame, ""))
	}
}

// 10.2: as many as 65,536 bytes are read at once, however many events they are.
func TestFeedMost(t *testing.T) {
	r := note.NewReader()
	if l := fed(t, r, 3, strings.Repeat("\xf8", byteMost)); !slices.Equal(l, slices.Repeat([]api.Note{clock(3, 0)}, byteMost)) {
		t.Errorf("%d events", len(l))
	}
	fed(t, r, 3, strings.Repeat("\x01", byteMost))
	agree(t, r, 0, byteMost)
}

// R5: a reader that is none; and one that NewReader did not make has read nothing.
func TestNoReader(t *testing.T) {
	var r *note.Reader
	for _, frame := range append(extremes(), 0, 1) {
		refuses(t, "Feed", api.ErrInvalid)(r.Feed(frame, "\xf8"))
		refuses(t, "Feed", api.ErrInvalid)(r.Feed(frame, strings.Repeat("\x40", byteMost+1)))
	}
	agree(t, r, 0, 0)
	r = &note.Reader{}
	agree(t, r, 0, 0)
	gives(t, "Feed", on(1, 0, 60, 64))(r.Feed(1, "\x01\x90\x3c\x40"))
	agree(t, r, 0, 1)
}
