package ring_test

import (
	"testing"

	"continuo/api"
	"continuo/ring"
)

// 7.1: Filled is (written - read) modulo 65,536, also where written has gone round.
func TestFilled(t *testing.T) {
	for _, c := range [][3]int{
		{0, 0, 0}, {1, 0, 1}, {7, 3, 4}, {1, 65534, 3}, {0, 65535, 1}, {65535, 0, 65535}, {65535, 65535, 0},
		{65535, 65531, 4}, {3, 7, 65532}, {0, 1, 65535}, {32768, 0, 32768}, {0, 32768, 32768}, {5, 64517, 1024},
	} {
		counted(t, "Filled", c[2])(ring.Filled(c[0], c[1]))
	}
	d := draws(1)
	for range 100000 {
		written, read := d.below(round), d.below(round)
		want := written - read
		if read > written {
			want += round
		}
		counted(t, "Filled", want)(ring.Filled(written, read))
	}
	for _, n := range noCounters() {
		for _, ok := range []int{0, 65535} {
			for _, c := range [][2]int{{n, ok}, {ok, n}, {n, n}} {
				if got, e := ring.Filled(c[0], c[1]); got != 0 || e != api.ErrRange {
					t.Errorf("Filled(%v) = %d, %d", c, got, e)
				}
			}
		}
	}
}

// 7.1, P7.4: Room is the size less what is filled; with more filled than the size there is none.
func TestRoom(t *testing.T) {
	for _, size := range sizes() {
		for filled := range size + 1 {
			for _, read := range []int{0, 1, 700, round - 1, round - filled, round - size} {
				read %= round
				counted(t, "Room", size-filled)(ring.Room(size, (read+filled)%round, read))
			}
		}
		for _, filled := range []int{size + 1, size + 2, 2*size + 1, 32768, 65535} {
			for _, read := range []int{0, 1, 700, round - 1} {
				if n, e := ring.Room(size, (read+filled)%round, read); n != 0 || e != api.ErrSize {
					t.Errorf("Room(%d, %d + %d) = %d, %d", size, read, filled, n, e)
				}
			}
		}
	}
}

// 7.1, R2: Room's ErrRange is ahead of its ErrSize.
func TestRoomErrors(t *testing.T) {
	refuse := func(size, written, read int) {
		t.Helper()
		if n, e := ring.Room(size, written, read); n != 0 || e != api.ErrRange {
			t.Errorf("Room(%d, %d, %d) = %d, %d", size, written, read, n, e)
		}
	}
	for _, n := range noSizes() {
		refuse(n, 0, 0)
		refuse(n, 5000, 0)
	}
	for _, n := range noCounters() {
		refuse(1024, n, 0)
		refuse(1024, 0, n)
		refuse(1, n, 100)
		refuse(3, n, n)
	}
}
