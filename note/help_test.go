package note_test

import (
	"math"
	"slices"
	"strings"
	"testing"

	"continuo/api"
	"continuo/note"
)

const (
	noteMost = 2000
	byteMost = 65536
	textMost = 200
)

func on(frame, channel, key, b int) api.Note {
	return api.Note{Frame: frame, Kind: api.NOn, Channel: channel, A: key, B: b}
}

func off(frame, channel, key, b int) api.Note {
	return api.Note{Frame: frame, Kind: api.NOff, Channel: channel, A: key, B: b}
}

func clock(frame, a int) api.Note { return api.Note{Frame: frame, Kind: api.NClock, A: a} }

func system(frame int, text string) api.Note {
	return api.Note{Frame: frame, Kind: api.NSystem, Text: text}
}

// example is an event with the bytes as which it stands.
type example struct {
	note  api.Note
	bytes string
}

// examples are events of all kinds, at their bounds too.
func examples() []example {
	long := strings.Repeat("\x7f", textMost)
	return []example{
		{api.Note{Kind: api.NOff}, "\x80\x00\x00"},
		{api.Note{Kind: api.NOff, Channel: 15, A: 127, B: 127}, "\x8f\x7f\x7f"},
		{api.Note{Kind: api.NOn, A: 60, B: 1}, "\x90\x3c\x01"},
		{api.Note{Kind: api.NOn, Channel: 15, A: 127, B: 127}, "\x9f\x7f\x7f"},
		{api.Note{Kind: api.NPress, Channel: 1, A: 2, B: 0}, "\xa1\x02\x00"},
		{api.Note{Kind: api.NPress, Channel: 15, A: 127, B: 127}, "\xaf\x7f\x7f"},
		{api.Note{Kind: api.NControl, Channel: 2, A: 7, B: 100}, "\xb2\x07\x64"},
		{api.Note{Kind: api.NControl, Channel: 15, A: 127, B: 127}, "\xbf\x7f\x7f"},
		{api.Note{Kind: api.NProgram, Channel: 3, A: 0}, "\xc3\x00"},
		{api.Note{Kind: api.NProgram, Channel: 15, A: 127}, "\xcf\x7f"},
		{api.Note{Kind: api.NTouch, Channel: 4, A: 9}, "\xd4\x09"},
		{api.Note{Kind: api.NTouch, Channel: 15, A: 127}, "\xdf\x7f"},
		{api.Note{Kind: api.NBend, Channel: 5, A: 1, B: 64}, "\xe5\x01\x40"},
		{api.Note{Kind: api.NBend, Channel: 15, A: 127, B: 127}, "\xef\x7f\x7f"},
		{api.Note{Kind: api.NSystem}, "\xf0\xf7"},
		{api.Note{Kind: api.NSystem, Text: "a\x00\x7f"}, "\xf0a\x00\x7f\xf7"},
		{api.Note{Kind: api.NSystem, Text: long}, "\xf0" + long + "\xf7"},
		{api.Note{Kind: api.NClock}, "\xf8"},
		{api.Note{Kind: api.NClock, A: 3}, "\xfb"},
		{api.Note{Kind: api.NClock, A: 7}, "\xff"},
	}
}

// extremes are numbers that nothing is.
func extremes() []int {
	return []int{math.MinInt, math.MinInt + 1, -1 << 32, -api.MaxTime - 1, -1, api.MaxTime + 1, 1 << 32, math.MaxInt - 1, math.MaxInt}
}

// wrongNotes are events that are not valid: each valid one with one thing that it does not have.
func wrongNotes() []api.Note {
	out := []api.Note{{}, {Kind: 10}, {Kind: -1}, {Kind: math.MaxInt}, {Kind: math.MinInt}}
	for kind := api.NOff; kind <= api.NClock; kind++ {
		n := api.Note{Kind: kind}
		if kind == api.NOn {
			n.B = 1
		}
		beyond := append(extremes(), 128)
		for _, x := range beyond {
			a, b, channel := n, n, n
			a.A, b.B, channel.Channel = x, x, x
			out = append(out, a, b, channel)
		}
		for _, x := range extremes() {
			frame := n
			frame.Frame = x
			out = append(out, frame)
		}
		n.Channel = 16
		out = append(out, n)
	}
	for kind := api.NOff; kind <= api.NBend; kind++ {
		out = append(out, api.Note{Kind: kind, A: 1, B: 1, Text: "a"})
	}
	return append(out, on(0, 0, 60, 0), api.Note{Kind: api.NProgram, B: 1}, api.Note{Kind: api.NTouch, B: 1},
		clock(0, 8), api.Note{Kind: api.NClock, B: 1}, api.Note{Kind: api.NClock, Channel: 1}, api.Note{Kind: api.NClock, Text: "a"},
		api.Note{Kind: api.NSystem, A: 1}, api.Note{Kind: api.NSystem, B: 1}, api.Note{Kind: api.NSystem, Channel: 1},
		system(0, "\x80"), system(0, "ab\xff"), system(0, strings.Repeat("a", textMost+1)))
}

// wrongLists are lists that no call takes: with an event that is not valid, and of too many.
func wrongLists() [][]api.Note {
	out := [][]api.Note{slices.Repeat([]api.Note{clock(0, 0)}, noteMost+1)}
	for _, n := range wrongNotes() {
		out = append(out, []api.Note{n}, []api.Note{on(9, 0, 60, 1), n, on(3, 0, 60, 1)})
	}
	return out
}

// backwards is a list whose frames go back.
func backwards() []api.Note { return []api.Note{on(5, 0, 60, 1), on(9, 0, 61, 1), on(8, 0, 62, 1)} }

// bytesOf are the bytes of an event, as the chapter tells them.
func bytesOf(n api.Note) string {
	first := "\x00\x80\x90\xa0\xb0\xc0\xd0\xe0\xf0\xf8"[n.Kind]
	switch n.Kind {
	case api.NSystem:
		return "\xf0" + n.Text + "\xf7"
	case api.NClock:
		return string([]byte{first + byte(n.A)})
	case api.NProgram, api.NTouch:
		return string([]byte{first + byte(n.Channel), byte(n.A)})
	}
	return string([]byte{first + byte(n.Channel), byte(n.A), byte(n.B)})
}

// encoded are the bytes of a list; with running status no status byte stands behind one that is the same.
func encoded(l []api.Note, running bool) string {
	out, before := "", ""
	for _, n := range l {
		s := bytesOf(n)
		switch {
		case n.Kind == api.NClock:
			out += s
			continue
		case n.Kind == api.NSystem:
			before = ""
			out += s
			continue
		case running && s[:1] == before:
			out += s[1:]
		default:
			out += s
		}
		before = s[:1]
	}
	return out
}

// shape tells of bytes with a status byte, without any of clocks, whether they are an event, and whether they begin one.
func shape(s string) (whole, begun bool) {
	data := 0
	for 1+data < len(s) && s[1+data] < 0x80 {
		data++
	}
	behind := s[1+data:]
	switch {
	case s[0] == 0xf0 && data <= textMost:
		return behind == "\xf7", behind == ""
	case s[0] < 0x80 || s[0] >= 0xf0 || behind != "":
		return false, false
	}
	needed := 2
	if s[0] >= 0xc0 && s[0] < 0xe0 {
		needed = 1
	}
	return data == needed, data < needed
}

// noteOf is the event of bytes that are one, as the chapter tells it.
func noteOf(s string) api.Note {
	switch {
	case s[0] >= 0xf8:
		return clock(0, int(s[0])-0xf8)
	case s[0] == 0xf0:
		return system(0, s[1:len(s)-1])
	}
	n := api.Note{Kind: int(s[0])/16 - 7, Channel: int(s[0]) % 16, A: int(s[1])}
	if len(s) > 2 {
		n.B = int(s[2])
	}
	if n.Kind == api.NOn && n.B == 0 {
		n.Kind = api.NOff
	}
	return n
}

// told is a reader as the chapter tells it.
type told struct {
	begun   string // of an event, with its status byte
	lent    bool   // that is the running one
	running string
	skipped int
}

// take reads a byte: an event, and whether there is one; and whether the byte is right.
func (m *told) take(b string) (n api.Note, is, right bool) {
	if b[0] >= 0xf8 {
		return noteOf(b), true, true
	}
	s, lent := m.begun+b, m.lent
	if m.begun == "" && b[0] < 0x80 {
		s, lent = m.running+b, true
	}
	whole, begun := shape(s)
	switch {
	case whole:
		m.begun, m.lent, m.running = "", false, s[:1]
		if s[0] == 0xf0 {
			m.running = ""
		}
		return noteOf(s), true, true
	case begun:
		m.begun, m.lent = s, lent
		return n, false, true
	}
	m.skipped += m.pending()
	m.begun, m.lent, m.running = "", false, ""
	if _, begun := shape(b); begun {
		m.begun = b
	} else {
		m.skipped++
	}
	return n, false, false
}

func (m *told) pending() int {
	if m.lent {
		return len(m.begun) - 1
	}
	return len(m.begun)
}

func (m *told) feed(frame int, s string) []api.Note {
	var out []api.Note
	for i := range len(s) {
		if n, is, _ := m.take(s[i : i+1]); is {
			n.Frame = frame
			out = append(out, n)
		}
	}
	return out
}

// decoded is Decode as the chapter tells it, of at most 2,000 events; -1 is no place.
func decoded(s string) ([]api.Note, int) {
	var m told
	var out []api.Note
	for i := range len(s) {
		n, is, right := m.take(s[i : i+1])
		if !right {
			return out, i
		}
		if is {
			out = append(out, n)
		}
	}
	if m.pending() > 0 {
		return out, len(s)
	}
	return out, -1
}

// numberOf is a number of variable length, as the chapter tells it.
func numberOf(n int) string {
	out := string([]byte{byte(n % 128)})
	for n /= 128; n > 0; n /= 128 {
		out = string([]byte{byte(n%128) + 128}) + out
	}
	return out
}

func packed(l []api.Note) string {
	out, frame := "", 0
	for _, n := range l {
		out += numberOf(n.Frame-frame) + bytesOf(n)
		frame = n.Frame
	}
	return out
}

// unpacked is Unpack as the chapter tells it; -1 is no place.
func unpacked(s string) ([]api.Note, int) {
	var out []api.Note
	i, frame := 0, 0
	for i < len(s) {
		length := 1 + strings.IndexFunc(s[i:], func(r rune) bool { return r < 0x80 })
		lead := len(s[i:]) - len(strings.TrimLeftFunc(s[i:], func(r rune) bool { return r >= 0x80 }))
		switch {
		case s[i] == 0x80 || lead >= 5:
			return nil, i
		case length == 0:
			return nil, len(s)
		}
		first, n := i, 0
		for ; i < first+length; i++ {
			n = n*128 + int(s[i])%128
		}
		if frame += n; frame > api.MaxTime {
			return nil, first
		}
		length, wrong := eventLength(s[i:])
		if wrong >= 0 {
			return nil, i + wrong
		}
		e := noteOf(s[i : i+length])
		e.Frame = frame
		out = append(out, e)
		i += length
	}
	return out, -1
}

// eventLength is how many bytes the event has with which bytes begin, or where they are wrong.
func eventLength(s string) (length, wrong int) {
	if s != "" && s[0] >= 0xf8 {
		return 1, -1
	}
	for i := 1; i <= len(s); i++ {
		whole, begun := shape(s[:i])
		switch {
		case whole && s[0] >= 0x90 && s[0] < 0xa0 && s[2] == 0, !whole && !begun:
			return 0, i - 1
		case whole:
			return i, -1
		}
	}
	return 0, len(s)
}

// hanging are the events behind which nothing of their key comes.
func hanging(l []api.Note) []api.Note {
	var out []api.Note
	for i, n := range l {
		if n.Kind == api.NOn && !slices.ContainsFunc(l[i+1:], func(later api.Note) bool {
			return later.Kind <= api.NOn && later.Channel == n.Channel && later.A == n.A
		}) {
			out = append(out, n)
		}
	}
	return out
}

// byKey is a list by channel, then key.
func byKey(l []api.Note) []api.Note {
	var out []api.Note
	for place := range 16 * 128 {
		for _, n := range l {
			if n.Channel*128+n.A == place {
				out = append(out, n)
			}
		}
	}
	return out
}

// sorted is a list by frames, event by event put behind those that are not later.
func sorted(l []api.Note) []api.Note {
	var out []api.Note
	for _, n := range l {
		at := len(out)
		for at > 0 && out[at-1].Frame > n.Frame {
			at--
		}
		out = slices.Insert(out, at, n)
	}
	return out
}

// draws are numbers that look drawn, the same ones each time.
type draws uint64

func (d *draws) below(n int) int {
	*d = *d*6364136223846793005 + 1442695040888963407
	return int(uint64(*d)>>33) % n
}

// note draws an event; few channels and keys, so that they meet.
func (d *draws) note(frame int) api.Note {
	n := api.Note{Frame: frame, Kind: d.below(9) + 1}
	if d.below(3) == 0 {
		n.Kind = d.below(2) + 1
	}
	switch n.Kind {
	case api.NSystem:
		n.Text = strings.Repeat("a\x00\x7f", d.below(4))
		return n
	case api.NClock:
		n.A = d.below(8)
		return n
	}
	n.Channel, n.A = d.below(3)*7, []int{0, 1, 60, 126, 127}[d.below(5)]
	if n.Kind != api.NProgram && n.Kind != api.NTouch {
		n.B = d.below(127) + 1
	}
	return n
}

// notes draws a list; its frames are as they come.
func (d *draws) notes(count int) []api.Note {
	var out []api.Note
	for range count {
		out = append(out, d.note(d.below(12)))
	}
	return out
}

// line draws a list that is sorted.
func (d *draws) line(count int) []api.Note {
	var out []api.Note
	frame, far := 0, []int{1, 3, 300, 400000}[d.below(4)]
	for range count {
		frame += d.below(far)
		out = append(out, d.note(frame))
	}
	return out
}

// bytes draws bytes that are often right.
func (d *draws) bytes(count int) string {
	var out []byte
	for len(out) < count {
		switch d.below(12) {
		case 0:
			out = append(out, byte(d.below(256)))
		case 1:
			out = append(out, byte(0xf0+d.below(16)))
		case 2:
			out = append(out, byte(d.below(128)))
		case 3, 4, 5, 6:
			out = append(out, byte(d.below(128)), byte(d.below(3)))
		default:
			out = append(out, bytesOf(d.note(0))...)
		}
	}
	return string(out[:count])
}

// pieces cuts bytes at places that are drawn.
func (d *draws) pieces(s string) []string {
	var out []string
	most := []int{1, 2, 7, 60}[d.below(4)]
	for len(s) > 0 {
		n := min(d.below(most+1), len(s))
		out = append(out, s[:n])
		s = s[n:]
	}
	return out
}

// gives asks for a list, and OK.
func gives(t *testing.T, what string, want ...api.Note) func(l []api.Note, e api.Errno) {
	return func(l []api.Note, e api.Errno) {
		t.Helper()
		if !slices.Equal(l, want) || e != api.OK {
			t.Fatalf("%s = %v, %d, not %v", what, l, e, want)
		}
	}
}

// refuses asks for an error, and no list beside it.
func refuses(t *testing.T, what string, want api.Errno) func(l []api.Note, e api.Errno) {
	return func(l []api.Note, e api.Errno) {
		t.Helper()
		if len(l) != 0 || e != want {
			t.Errorf("%s = %v, %d, not the error %d", what, l, e, want)
		}
	}
}

// writes asks for bytes, and OK.
func writes(t *testing.T, what, want string) func(s string, e api.Errno) {
	return func(s string, e api.Errno) {
		t.Helper()
		if s != want || e != api.OK {
			t.Fatalf("%s = %x, %d, not %x", what, s, e, want)
		}
	}
}

// writesNot asks for an error, and no bytes beside it.
func writesNot(t *testing.T, what string, want api.Errno) func(s string, e api.Errno) {
	return func(s string, e api.Errno) {
		t.Helper()
		if s != "" || e != want {
			t.Errorf("%s = %d bytes, %d, not the error %d", what, len(s), e, want)
		}
	}
}

// reads asks for a list with a place, and for OK if that is -1, else for ErrData.
func reads(t *testing.T, what string, want []api.Note, place int) func(l []api.Note, at int, e api.Errno) {
	return func(l []api.Note, at int, e api.Errno) {
		t.Helper()
		error := api.ErrData
		if place < 0 {
			place, error = 0, api.OK
		}
		if !slices.Equal(l, want) || at != place || e != error {
			t.Fatalf("%s = %v, %d, %d, not %v, %d, %d", what, l, at, e, want, place, error)
		}
	}
}

// readsNot asks for an error with nothing beside it.
func readsNot(t *testing.T, what string, want api.Errno) func(l []api.Note, at int, e api.Errno) {
	return func(l []api.Note, at int, e api.Errno) {
		t.Helper()
		if len(l) != 0 || at != 0 || e != want {
			t.Errorf("%s = %d events, %d, %d, not the error %d", what, len(l), at, e, want)
		}
	}
}

// fed is Feed with what is right.
func fed(t *testing.T, r *note.Reader, frame int, s string) []api.Note {
	t.Helper()
	l, e := r.Feed(frame, s)
	if e != api.OK {
		t.Fatalf("Feed(%d, %x) = %v, %d", frame, s, l, e)
	}
	return l
}

// agree compares what a reader tells of itself with what it is told to be.
func agree(t *testing.T, r *note.Reader, pending, skipped int) {
	t.Helper()
	if r.Pending() != pending || r.Skipped() != skipped {
		t.Fatalf("Pending = %d, Skipped = %d, not %d, %d", r.Pending(), r.Skipped(), pending, skipped)
	}
}
