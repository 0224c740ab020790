package value_test

import (
	"strings"
	"testing"

	"continuo/api"
	"continuo/value"
)

func TestEncodeBytes(t *testing.T) {
	for _, x := range []struct {
		v api.Value
		s string
	}{
		{none(), rawNone},
		{boolean(0), head(4, 2) + wide(0)},
		{boolean(1), rawTrue},
		{integer(5), head(8, 3) + "\x05\x00\x00\x00\x00\x00\x00\x00"},
		{integer(-2), head(8, 3) + "\xfe\xff\xff\xff\xff\xff\xff\xff"},
		{integer(0x0102030405060708), head(8, 3) + "\x08\x07\x06\x05\x04\x03\x02\x01"},
		{integer(-1 << 63), head(8, 3) + "\x00\x00\x00\x00\x00\x00\x00\x80"},
		{text(""), head(0, 4)},
		{text("ab"), head(2, 4) + "ab\x00\x00\x00\x00\x00\x00"},
		{text("12345678"), head(8, 4) + "12345678"},
		{blob("\x00b\xff"), head(3, 5) + "\x00b\xff\x00\x00\x00\x00\x00"},
		{list(), head(0, 6)},
		{list(boolean(1), boolean(1)), head(32, 6) + rawTrue + rawTrue},
		{record(none(), boolean(1)), head(24, 7) + rawNone + rawTrue},
		{object(0x01020304, nil), head(8, 8) + "\x04\x03\x02\x01\x00\x00\x00\x00"},
		{object(3, []int{7, 1<<31 - 1}, none(), boolean(1)), head(48, 8) + wide(3) + wide(7) + rawNone + wide(1<<31-1) + rawTrue},
		{choice(api.COne, 6), head(24, 9) + wide(1) + rawInt(6)},
		{choice(api.CRange, 6, 1, 9), head(56, 9) + wide(3) + rawInt(6) + rawInt(1) + rawInt(9)},
		{sequence(nil), head(0, 10)},
		{sequence([]int{2, 2}, none(), none()), head(32, 10) + wide(2) + rawNone + wide(2) + rawNone},
	} {
		if s := encoded(t, x.v); s != x.s {
			t.Errorf("Encode(%v) = %q, not %q", x.v, s, x.s)
		}
	}
}

func TestThereAndBack(t *testing.T) {
	for _, v := range append(samples(), drawn(1, 500)...) {
		s := encoded(t, v)
		if n, e := value.Size(v); n != len(s) || n%8 != 0 || e != api.OK {
			t.Errorf("%v: Size = %d, %d for %d bytes", v, n, e, len(s))
		}
		back, e := value.Decode(s)
		if !value.Same(back, v) || e != api.OK {
			t.Errorf("%v is read back as %v, %d", v, back, e)
		}
		if encoded(t, back) != s {
			t.Errorf("%v is not written again as it was", v)
		}
	}
}

func TestDifferentBytes(t *testing.T) {
	seen := map[string]api.Value{}
	for _, v := range append(samples(), drawn(2, 500)...) {
		s := encoded(t, v)
		if old, ok := seen[s]; ok && !value.Same(old, v) {
			t.Errorf("%v and %v are both written %q", old, v, s)
		}
		seen[s] = v
	}
}

func TestCount(t *testing.T) {
	for _, x := range []struct {
		v api.Value
		n int
	}{
		{none(), 1}, {text("abc"), 1}, {list(), 1}, {choice(api.CStep, 8, -4, 10, 6), 5}, {nested(10), 10},
		{record(record(none()), list(integer(1), integer(2)), none()), 7},
		{object(1, []int{1, 2}, none(), sequence([]int{1}, none())), 4},
		{record(make500(none())[1:]...), 500},
	} {
		if n, e := value.Count(x.v); n != x.n || e != api.OK {
			t.Errorf("Count(%v) = %d, %d, not %d", x.v, n, e, x.n)
		}
	}
}

func TestSize(t *testing.T) {
	for _, x := range []struct {
		v api.Value
		n int
	}{
		{none(), 8}, {boolean(1), 16}, {integer(1), 16}, {text(""), 8}, {text("1"), 16}, {text("12345678"), 16}, {text("123456789"), 24},
		{list(), 8}, {record(none(), none()), 24}, {object(1, nil), 16}, {object(1, []int{1}, none()), 32},
		{choice(api.COne, 1), 32}, {sequence(nil), 8}, {sequence([]int{1}, none()), 24},
		{blob(strings.Repeat("a", api.MaxText-8)), api.MaxText},
	} {
		if n, e := value.Size(x.v); n != x.n || e != api.OK {
			t.Errorf("Size(%v) = %d, %d, not %d", x.v, n, e, x.n)
		}
	}
}
