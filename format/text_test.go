package format_test

import (
	"strings"
	"testing"

	"continuo/api"
	"continuo/format"
)

func TestText(t *testing.T) {
	for _, x := range []struct {
		f    api.Format
		want string
	}{
		{fields(api.MAudio), "audio"}, {fields(api.MVideo), "video"}, {fields(api.MNotes), "notes"},
		{audio(one(5)), "audio rate=5"}, {audio(one(0)), "audio rate=0"}, {audio(one(api.MaxTime)), "audio rate=1000000000"},
		{audio(enum(5, 3, 5)), "audio rate=5 of 3,5"}, {audio(enum(5, 5)), "audio rate=5 of 5"},
		{audio(span(5, 1, 9)), "audio rate=5 of 1..9"}, {audio(span(5, 5, 5)), "audio rate=5 of 5..5"},
		{audio(step(5, 1, 9, 2)), "audio rate=5 of 1..9/2"}, {audio(step(4, 4, 7, 1)), "audio rate=4 of 4..7/1"},
		{full(), "video encoding=3 rate=5 of 3,5 channels=7 of 1..9 width=9 of 1..10/4 height=0 modifier=6 of 6"},
	} {
		if s := format.Text(x.f); s != x.want {
			t.Errorf("Text(%v) = %q, not %q", x.f, s, x.want)
		}
		if f, e := format.Parse(x.want); !format.Same(f, x.f) || e != api.OK {
			t.Errorf("Parse(%q) = %v, %d", x.want, f, e)
		}
	}
}

// P2.6: what is written as a text is read back.
func TestTextAndBack(t *testing.T) {
	for _, f := range validFormats() {
		if back, e := format.Parse(format.Text(f)); !format.Same(back, f) || e != api.OK {
			t.Errorf("%q is read back as %v, %d", format.Text(f), back, e)
		}
	}
}

func TestParseSyntax(t *testing.T) {
	for _, s := range []string{
		"", " ", "sound", "Audio", "audi", "audios", "audio ", " audio", "audio\n", "audio  ", "audio=1", "1", "audio,video", "audio video",
		"audio rate", "audio rate=", "audio =5", "audio rate 5", "audio rate==5", "audio rate=5=5", "audio rates=5", "audio Rate=5", "audio 2=5", "rate=5",
		"audio rate=5 ", "audio  rate=5", "audio rate=5  channels=2", "audio rate=5\tchannels=2", "audio rate=5,channels=2", "audio\x00",
		"audio rate=05", "audio rate=00", "audio rate=+5", "audio rate=-5", "audio rate=-0", "audio rate=5.0", "audio rate=0x5", "audio rate=1_0", "audio rate=five", "audio rate=٥",
		"audio rate=1000000001", "audio rate=99999999999999999999", "audio rate=18446744073709551621",
		"audio rate=5 rate=5", "audio channels=1 rate=1", "audio rate=1 encoding=1", "audio modifier=1 height=1",
		"audio rate=4 of 5", "audio rate=5 of", "audio rate=5 of ", "audio rate=5 of  5", "audio rate=5 of 3,5 of 3,5", "audio rate=5 of5", "audio rate=5 in 3,5", "audio of 3,5", "audio rate of 3,5",
		"audio rate=5 of 3, 5", "audio rate=5 of 3,,5", "audio rate=5 of ,5", "audio rate=5 of 5,", "audio rate=5 of 5,5", "audio rate=5 of 3,05", "audio rate=5 of 3;5", "audio rate=5 of 3,+5",
		"audio rate=1 of 1,2,3,4,5,6,7,8,9,10,11,12,13,14,15,16,17,18,19,20,21",
		"audio rate=5 of 1...9", "audio rate=5 of 1..", "audio rate=5 of ..9", "audio rate=5 of ..", "audio rate=5 of 1.9", "audio rate=5 of 9..1", "audio rate=5 of 6..9", "audio rate=5 of 1..4",
		"audio rate=5 of 1..9..12", "audio rate=5 of 01..9", "audio rate=5 of 1..09", "audio rate=5 of 1..9,12", "audio rate=5 of 1..1000000001", "audio rate=5 of -1..9",
		"audio rate=5 of 1..9/", "audio rate=5 of 1..9/0", "audio rate=5 of 1..9/02", "audio rate=5 of 1..9/-2", "audio rate=5 of 1..9/2/2", "audio rate=6 of 1..9/2", "audio rate=1 of 1..9000/1001", "audio rate=5 of 1/2", "audio rate=5 of 1..9/ 2",
	} {
		if f, e := format.Parse(s); !isZero(f) || e != api.ErrSyntax {
			t.Errorf("Parse(%q) = %v, %d", s, f, e)
		}
	}
}

func TestParseLong(t *testing.T) {
	for _, x := range []struct {
		s string
		e api.Errno
	}{
		{strings.Repeat("a", api.MaxText), api.ErrSyntax},
		{strings.Repeat("a", api.MaxText+1), api.ErrLong},
		{strings.Repeat(" ", api.MaxText), api.ErrSyntax},
		{"audio rate=" + strings.Repeat("5", api.MaxText-11), api.ErrSyntax},
		{"audio rate=5 of 5" + strings.Repeat(",5", api.MaxText/2-9), api.ErrSyntax},
		{"audio rate=5" + strings.Repeat(" ", api.MaxText), api.ErrLong},
	} {
		if f, e := format.Parse(x.s); !isZero(f) || e != x.e {
			t.Errorf("%d bytes: %v, %d", len(x.s), f, e)
		}
	}
}

// Of each text with one byte changed, put in or taken out: it is read only if it is written just so.
func TestParseReadsJustSuchTexts(t *testing.T) {
	const bytes = "0159=of ,./a\x00-"
	for _, f := range []api.Format{full(), audio(enum(5, 3, 5)), fields(api.MNotes, channels(step(5, 1, 9, 2)))} {
		s := format.Text(f)
		for i := range len(s) {
			checkJust(t, s[:i]+s[i+1:])
			for j := range len(bytes) {
				checkJust(t, s[:i]+bytes[j:j+1]+s[i+1:])
				checkJust(t, s[:i]+bytes[j:j+1]+s[i:])
			}
		}
	}
}

func checkJust(t *testing.T, s string) {
	t.Helper()
	f, e := format.Parse(s)
	switch {
	case e == api.ErrSyntax && isZero(f):
	case e == api.OK && format.Valid(f) && format.Text(f) == s:
	default:
		t.Errorf("Parse(%q) = %v, %d", s, f, e)
	}
}
