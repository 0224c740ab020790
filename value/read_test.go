package value_test

import (
	"strings"
	"testing"

	"continuo/api"
	"continuo/value"
)

// readCase is a text, and what Read tells of it.
type readCase struct {
	name, s string
	bad     int
	e       api.Errno
}

func checkReads(t *testing.T, cases []readCase) {
	t.Helper()
	for _, x := range cases {
		v, used, bad, e := value.Read(x.s)
		if bad != x.bad || e != x.e {
			t.Errorf("%s: told %d at %d, not %d at %d", x.name, e, bad, x.e, x.bad)
		}
		if e != api.OK && (used != 0 || !isZero(v)) {
			t.Errorf("%s: a result beside an error: %v, %d", x.name, v, used)
		}
	}
}

func TestReadHeader(t *testing.T) {
	checkReads(t, []readCase{
		{"nothing", "", 0, api.ErrNone},
		{"part of a header, however wrong", "\xff\xff\xff\xff\xff\xff\xff", 7, api.ErrNone},
		{"kind 0", head(0, 0), 0, api.ErrData},
		{"kind 11", head(0, 11), 0, api.ErrData},
		{"kind 257", head(0, 257), 0, api.ErrData},
		{"kind 2^31 + 1", head(0, 1<<31+1), 0, api.ErrData},
		{"none of 1", head(1, 1), 0, api.ErrData},
		{"none of 8", head(8, 1) + wide(0), 0, api.ErrData},
		{"bool of 0", head(0, 2), 0, api.ErrData},
		{"bool of 3", head(3, 2), 0, api.ErrData},
		{"bool of 8", head(8, 2) + wide(1), 0, api.ErrData},
		{"int of 4", head(4, 3), 0, api.ErrData},
		{"int of 16", head(16, 3), 0, api.ErrData},
		{"object of 0", head(0, 8), 0, api.ErrData},
		{"object of 7", head(7, 8), 0, api.ErrData},
		{"choice of 0", head(0, 9), 0, api.ErrData},
		{"choice of 7", head(7, 9), 0, api.ErrData},
		{"the greatest length", head(api.MaxText-8, 5), 8, api.ErrNone},
		{"beyond MaxText", head(api.MaxText-7, 5), 0, api.ErrData},
		{"text beyond MaxText", head(1<<32-1, 4), 0, api.ErrData},
		{"struct beyond MaxText", head(api.MaxText, 7), 0, api.ErrData},
	})
}

// Of a body that is not whole what is there is asked.
func TestReadPartOfBody(t *testing.T) {
	checkReads(t, []readCase{
		{"bool 1, one byte", head(4, 2) + "\x01", 9, api.ErrNone},
		{"bool 2, one byte", head(4, 2) + "\x02", 0, api.ErrData},
		{"bool with a second byte", head(4, 2) + "\x01\x01", 0, api.ErrData},
		{"bool with a third byte", head(4, 2) + "\x00\x00\x01", 0, api.ErrData},
		{"bool with a fourth byte", head(4, 2) + "\x00\x00\x00\x80", 0, api.ErrData},
		{"int", head(8, 3) + "\xff\xff\xff\xff\xff\xff\xff", 15, api.ErrNone},
		{"text", head(9, 4) + "ab", 10, api.ErrNone},
		{"text with a zero byte", head(9, 4) + "ab\x00", 0, api.ErrData},
		{"bytes with a zero byte", head(9, 5) + "ab\x00", 11, api.ErrNone},
		{"object without its type", head(8, 8), 8, api.ErrNone},
		{"object of a great type, three bytes", head(8, 8) + "\xff\xff\xff", 11, api.ErrNone},
		{"object of the greatest type", head(8, 8) + "\xff\xff\xff\x7f", 12, api.ErrNone},
		{"object of a type above", head(8, 8) + "\x00\x00\x00\x80", 0, api.ErrData},
		{"object with zeros", head(8, 8) + "\x01\x00\x00\x00\x00\x00\x00", 15, api.ErrNone},
		{"object with a zero that is not", head(8, 8) + "\x01\x00\x00\x00\x00\x01", 0, api.ErrData},
		{"choice without its kind", head(24, 9), 8, api.ErrNone},
		{"choice of kind 4", head(24, 9) + "\x04", 9, api.ErrNone},
		{"choice of kind 0", head(24, 9) + "\x00", 0, api.ErrData},
		{"choice of kind 5", head(24, 9) + "\x05", 0, api.ErrData},
		{"choice of kind 257", head(24, 9) + "\x01\x01", 0, api.ErrData},
		{"choice of kind 2^24 + 1", head(24, 9) + "\x01\x00\x00\x01", 0, api.ErrData},
		{"choice with zeros", head(24, 9) + "\x01\x00\x00\x00\x00\x00\x00", 15, api.ErrNone},
		{"choice with a zero that is not", head(24, 9) + "\x01\x00\x00\x00\x01", 0, api.ErrData},
		{"key of an object", head(24, 8) + wide(1) + "\xff\xff\xff\xff", 20, api.ErrNone},
		{"zeros of a key", head(24, 8) + wide(1) + "\xff\xff\xff\xff\x00\x00", 22, api.ErrNone},
		{"zero of a key that is not", head(24, 8) + wide(1) + "\x01\x00\x00\x00\x01", 0, api.ErrData},
		{"zero of a time that is not", head(16, 10) + "\x01\x00\x00\x00\x00\x00\x00\x01", 0, api.ErrData},
	})
}

func TestReadPadding(t *testing.T) {
	checkReads(t, []readCase{
		{"bool, no padding", head(4, 2) + "\x01\x00\x00\x00", 12, api.ErrNone},
		{"bool, part of it", head(4, 2) + "\x01\x00\x00\x00\x00\x00\x00", 15, api.ErrNone},
		{"bool, wrong", head(4, 2) + "\x01\x00\x00\x00\x01\x00\x00\x00", 0, api.ErrData},
		{"bool, wrong in a part", head(4, 2) + "\x01\x00\x00\x00\x01", 0, api.ErrData},
		{"text, part of it", head(2, 4) + "ab\x00\x00", 12, api.ErrNone},
		{"text, wrong at the end", head(2, 4) + "ab\x00\x00\x00\x00\x00c", 0, api.ErrData},
		{"bytes, wrong", head(1, 5) + "a\x00\x00\x00\x00\x01\x00\x00", 0, api.ErrData},
		{"kid, wrong", raw(7, rawNone, head(1, 5)+"a\x00\x00\x00\x00\x01\x00\x00"), 16, api.ErrData},
	})
}

// A kid that reaches beyond what holds it is told at the kid, a holder with too few bytes left at the holder.
func TestReadHolders(t *testing.T) {
	checkReads(t, []readCase{
		{"kid beyond", head(16, 7) + rawNone + head(8, 5), 16, api.ErrData},
		{"kid beyond, and more behind", head(16, 7) + rawNone + head(8, 5) + rawTrue, 16, api.ErrData},
		{"kid with its padding beyond", head(12, 7) + rawTrue, 8, api.ErrData},
		{"kid of a kid beyond", raw(7, rawNone, raw(7, rawNone, head(8, 3))+rawTrue), 32, api.ErrData},
		{"kid beyond its holder, not the outer one", raw(7, raw(7, head(8, 4))+"12345678"), 16, api.ErrData},
		{"keyed kid beyond", raw(8, wide(1), wide(2), head(8, 3)), 24, api.ErrData},
		{"struct of 4", raw(7, four(0)), 0, api.ErrData},
		{"struct of 4, the body only", head(4, 7) + four(0), 0, api.ErrData},
		{"struct of 4, the header only", head(4, 7), 0, api.ErrData},
		{"list of 12", raw(6, rawTrue, "\x01\x00\x00"), 0, api.ErrData},
		{"struct of 12, a kid only", head(12, 7) + rawNone, 0, api.ErrData},
		{"struct of 12, no kid", head(12, 7), 8, api.ErrNone},
		{"struct of 12, a wrong kid", raw(7, head(0, 11), four(0)), 8, api.ErrData},
		{"object of 12", raw(8, wide(1), four(1)), 0, api.ErrData},
		{"object of 12, its type only", head(12, 8) + wide(1), 0, api.ErrData},
		{"sequence of 4, the header only", head(4, 10), 0, api.ErrData},
		{"object of a key", raw(8, wide(1), wide(1)), 0, api.ErrData},
		{"object of a key and a half", raw(8, wide(1), wide(1), four(0)), 0, api.ErrData},
		{"object of a key, without it", head(16, 8) + wide(1), 16, api.ErrNone},
		{"choice of 12", raw(9, wide(1), four(8)), 0, api.ErrData},
		{"sequence of 4", raw(10, four(1)), 0, api.ErrData},
		{"sequence of a time", raw(10, wide(1)), 0, api.ErrData},
		{"sequence of a time, behind a kid", raw(10, wide(1), rawNone, wide(1)), 0, api.ErrData},
		{"holder within", raw(7, rawNone, raw(7, rawNone, four(0))), 16, api.ErrData},
	})
}

// wholeWrong are texts of which only the whole is wrong, with the byte at which that is told.
func wholeWrong() []readCase {
	return []readCase{
		{"list of two kinds", raw(6, rawTrue, rawInt(1)), 0, api.ErrData},
		{"list of nones", raw(6, rawNone), 0, api.ErrData},
		{"equal keys", raw(8, wide(1), wide(4), rawNone, wide(4), rawNone), 0, api.ErrData},
		{"descending keys", raw(8, wide(1), wide(4), rawNone, wide(3), rawNone), 0, api.ErrData},
		{"key above", raw(8, wide(1), wide(1<<31), rawNone), 0, api.ErrData},
		{"descending times", raw(10, wide(4), rawNone, wide(3), rawNone), 0, api.ErrData},
		{"time above", raw(10, wide(api.MaxTime+1), rawNone), 0, api.ErrData},
		{"sequence in a sequence", raw(10, wide(1), raw(10)), 0, api.ErrData},
		{"choice of none", raw(9, wide(1), rawNone), 0, api.ErrData},
		{"one with more", raw(9, wide(1), rawInt(1), rawInt(1)), 0, api.ErrData},
		{"enum with equal ones", raw(9, wide(2), rawInt(1), rawInt(1), rawInt(1)), 0, api.ErrData},
		{"enum without the default", raw(9, wide(2), rawInt(1), rawInt(2)), 0, api.ErrData},
		{"range above its default", raw(9, wide(3), rawInt(1), rawInt(2), rawInt(3)), 0, api.ErrData},
		{"default between steps", raw(9, wide(4), rawInt(2), rawInt(1), rawInt(5), rawInt(2)), 0, api.ErrData},
		{"kid of two kinds", raw(7, rawNone, raw(6, rawTrue, rawInt(1))), 16, api.ErrData},
		{"wrong kid of a wrong holder", raw(8, wide(1), wide(1<<31), raw(6, rawNone)), 24, api.ErrData},
	}
}

func TestReadWhole(t *testing.T) {
	checkReads(t, append(wholeWrong(),
		readCase{"choice of nothing", raw(9, wide(1)), 0, api.ErrData},
		readCase{"list, and a wrong value behind it", raw(7, raw(6, rawNone), head(0, 11)), 8, api.ErrData},
		readCase{"list with a wrong kid behind another kind", raw(6, rawTrue, rawNone, head(0, 11)), 32, api.ErrData},
		readCase{"keys with a wrong kid behind them", raw(8, wide(1), wide(4), rawNone, wide(4), head(0, 11)), 40, api.ErrData},
		readCase{"two wrong kids", raw(7, rawNone, head(0, 12), head(0, 11)), 16, api.ErrData},
	))
	for _, x := range wholeWrong() {
		for n := range len(x.s) - 8 {
			if _, _, bad, e := value.Read(x.s[:n]); bad != n || e != api.ErrNone {
				t.Errorf("%s: %d bytes of it: told %d at %d", x.name, n, e, bad)
			}
		}
	}
}

func TestReadEnds(t *testing.T) {
	for _, s := range []string{
		raw(10, wide(4), rawNone, wide(4), rawNone),
		raw(10, wide(api.MaxTime), rawNone),
		raw(8, wide(1<<31-1), wide(0), rawNone, wide(1<<31-1), rawNone),
		raw(10, wide(1), raw(7, raw(10))),
	} {
		if _, used, bad, e := value.Read(s); used != len(s) || bad != -1 || e != api.OK {
			t.Errorf("%q: took %d, told %d at %d", s, used, e, bad)
		}
	}
}

func TestReadLimits(t *testing.T) {
	ten := encoded(t, nested(10))
	many := encoded(t, record(make500(boolean(1))[1:]...))
	deep := func(inner string) string { return rawNested(10, inner) }
	full := strings.Repeat(rawTrue, 499)
	checkReads(t, []readCase{
		{"ten levels", ten, -1, api.OK},
		{"500 values", many, -1, api.OK},
		{"level 11", deep(rawNone), 80, api.ErrLimit},
		{"level 11 of no kind", deep(head(0, 11)), 80, api.ErrLimit},
		{"level 11 beyond its holder", deep(head(64, 5)), 80, api.ErrLimit},
		{"part of level 11", deep(rawNone)[:87], 87, api.ErrNone},
		{"level 11 behind something wrong", raw(7, head(0, 11), deep(rawNone)), 8, api.ErrData},
		{"something wrong behind level 11", raw(7, deep(rawNone), head(0, 11)), 80, api.ErrLimit},
		{"501 values", raw(6, full, rawTrue), 8 + 499*16, api.ErrLimit},
		{"501st of no kind", raw(6, full, head(0, 11)), 8 + 499*16, api.ErrLimit},
		{"part of the 501st", raw(6, full, rawTrue)[:8+499*16+7], 8 + 499*16 + 7, api.ErrNone},
		{"too few bytes left for the 501st", raw(6, full, four(0)), 0, api.ErrData},
		{"501 values, the last one within", raw(7, rawNone, full[2*16:], raw(7, rawNone)), 16 + 497*16 + 8, api.ErrLimit},
	})
}

func TestReadLong(t *testing.T) {
	checkReads(t, []readCase{
		{"too long", rawNone + strings.Repeat("z", api.MaxText-7), 0, api.ErrLong},
		{"too long and wrong", strings.Repeat("z", api.MaxText+1), 0, api.ErrLong},
		{"not too long", rawNone + strings.Repeat("z", api.MaxText-8), -1, api.OK},
	})
	whole := blob(strings.Repeat("b", api.MaxText-8))
	if v, used, bad, e := value.Read(encoded(t, whole)); !value.Same(v, whole) || used != api.MaxText || bad != -1 || e != api.OK {
		t.Errorf("a value of MaxText bytes: %d, %d, %d", used, bad, e)
	}
}

// Each beginning of a written value is ErrNone, and what stands behind it changes nothing.
func TestReadBeginnings(t *testing.T) {
	for _, v := range append(samples(), drawn(3, 100)...) {
		s := encoded(t, v)
		for n := range len(s) {
			if got, used, bad, e := value.Read(s[:n]); !isZero(got) || used != 0 || bad != n || e != api.ErrNone {
				t.Errorf("%d bytes of %v: %v, %d, told %d at %d", n, v, got, used, e, bad)
			}
		}
		for _, behind := range []string{"", "z", "\x00", s, strings.Repeat("\xff", 20)} {
			if got, used, bad, e := value.Read(s + behind); !value.Same(got, v) || used != len(s) || bad != -1 || e != api.OK {
				t.Errorf("%v with %q behind it: %v, %d, told %d at %d", v, behind, got, used, e, bad)
			}
		}
	}
}

// A byte that is another one either makes another value, which is written as it was read, or is told;
// and what is told once of a beginning is told of all that is longer.
func TestReadOtherBytes(t *testing.T) {
	for _, v := range append(samples(), drawn(4, 60)...) {
		s := encoded(t, v)
		for i := range len(s) {
			for _, b := range []byte{s[i] + 1, s[i] - 1, s[i] ^ 0x80, s[i] + 8, 0, 0xff} {
				checkOther(t, s[:i]+string([]byte{b})+s[i+1:])
			}
		}
	}
}

func checkOther(t *testing.T, s string) {
	t.Helper()
	v, used, bad, e := value.Read(s)
	if e == api.OK {
		if bad != -1 || encoded(t, v) != s[:used] {
			t.Errorf("%q: read as %v, bad %d", s, v, bad)
		}
		return
	}
	for n := range len(s) {
		_, _, b, f := value.Read(s[:n])
		if f == api.ErrNone && b != n || f != api.ErrNone && (b != bad || f != e) || f != api.ErrNone && b >= n {
			t.Errorf("%q: told %d at %d, but of %d bytes %d at %d", s, e, bad, n, f, b)
		}
	}
}

func TestDecode(t *testing.T) {
	for _, x := range []struct {
		name, s string
		e       api.Errno
	}{
		{"a value", rawTrue, api.OK},
		{"nothing", "", api.ErrData},
		{"part of a value", rawTrue[:15], api.ErrData},
		{"a byte left", rawTrue + "\x00", api.ErrData},
		{"two values", rawTrue + rawTrue, api.ErrData},
		{"a wrong value", head(0, 11), api.ErrData},
		{"too deep", rawNested(11, ""), api.ErrLimit},
		{"too long", rawTrue + strings.Repeat("z", api.MaxText), api.ErrLong},
	} {
		v, e := value.Decode(x.s)
		if e != x.e || (e != api.OK) != isZero(v) {
			t.Errorf("%s: %v, %d, not %d", x.name, v, e, x.e)
		}
	}
}

// rawNested is something within that many structs.
func rawNested(levels int, inner string) string {
	for range levels {
		inner = raw(7, inner)
	}
	return inner
}
