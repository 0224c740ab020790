package pool_test

import (
	"testing"

	"continuo/api"
	"continuo/pool"
)

// 8.1: Valid, with each number at its bounds.
func TestValid(t *testing.T) {
	set := func(change func(w *api.Want)) api.Want {
		w := usual()
		change(&w)
		return w
	}
	for _, w := range []api.Want{
		usual(),
		wish(1, 1, 1, 1, 1, 1, 1),
		wish(64, 64, 8, 65536, 256, 256, 255),
		wish(1, 64, 8, 256, 256, 128, 128),
		set(func(w *api.Want) { w.Least = 1 }),
		set(func(w *api.Want) { w.Least = 8 }),
		set(func(w *api.Want) { w.Most = 2 }),
		set(func(w *api.Want) { w.Most = 64 }),
		set(func(w *api.Want) { w.Blocks = 1 }),
		set(func(w *api.Want) { w.Blocks = 8 }),
		set(func(w *api.Want) { w.Size = 4 }),
		set(func(w *api.Want) { w.Size = 65536 }),
		set(func(w *api.Want) { w.Stride = 1 }),
		set(func(w *api.Want) { w.Stride = 10 }),
		set(func(w *api.Want) { w.Kinds = 1 }),
		set(func(w *api.Want) { w.Kinds = 255 }),
	} {
		if !pool.Valid(w) {
			t.Errorf("Valid(%v) = false", w)
		}
	}
	for _, w := range noWishes() {
		if pool.Valid(w) {
			t.Errorf("Valid(%v) = true", w)
		}
	}
	for align := -1; align <= 600; align++ {
		w := usual()
		w.Align = align
		power := align == 1 || align == 2 || align == 4 || align == 8 || align == 16 || align == 32 || align == 64 || align == 128 || align == 256
		if pool.Valid(w) != power {
			t.Errorf("Valid with align %d = %v", align, !power)
		}
	}
}

// 8.1: what a deal is made of, by hand.
func TestAgree(t *testing.T) {
	base := api.Want{Least: 3, Most: 10, Blocks: 2, Size: 10, Stride: 4, Align: 8, Kinds: 0b110100}
	for _, c := range []struct {
		other  api.Want
		prefer int
		want   api.Deal
	}{
		{wish(1, 64, 2, 4, 4, 1, 255), 0, deal(3, 2, 12, 4, 8, 2)},
		{wish(1, 64, 2, 12, 4, 1, 0b100000), 2, deal(3, 2, 12, 4, 8, 5)},
		{wish(1, 64, 2, 13, 4, 8, 0b110000), 3, deal(3, 2, 16, 4, 8, 4)},
		{wish(1, 64, 2, 16, 4, 16, 0b101), 4, deal(4, 2, 16, 4, 16, 2)},
		{wish(5, 7, 2, 5, 4, 256, 4), 4, deal(5, 2, 12, 4, 256, 2)},
		{wish(5, 7, 2, 5, 4, 256, 4), 6, deal(6, 2, 12, 4, 256, 2)},
		{wish(5, 7, 2, 5, 4, 256, 4), 7, deal(7, 2, 12, 4, 256, 2)},
		{wish(5, 7, 2, 5, 4, 256, 4), 8, deal(7, 2, 12, 4, 256, 2)},
		{wish(5, 64, 2, 5, 4, 256, 4), 64, deal(10, 2, 12, 4, 256, 2)},
		{wish(10, 20, 2, 5, 4, 256, 4), 0, deal(10, 2, 12, 4, 256, 2)},
		{wish(1, 3, 2, 5, 4, 256, 4), 64, deal(3, 2, 12, 4, 256, 2)},
		{wish(1, 10, 2, 8000, 4, 2, 4), 64, deal(10, 2, 8000, 4, 8, 2)},
	} {
		for _, pair := range [][2]api.Want{{base, c.other}, {c.other, base}} {
			if d, e := pool.Agree(pair[0], pair[1], c.prefer); d != c.want || e != api.OK {
				t.Errorf("Agree(%v, %v, %d) = %v, %d, not %v", pair[0], pair[1], c.prefer, d, e, c.want)
			}
		}
	}
}

// 8.1: Agree's errors, each ahead of those that come later.
func TestAgreeErrors(t *testing.T) {
	a := usual()
	apart := api.Want{Least: 9, Most: 64, Blocks: 8, Size: 65535, Stride: 200, Align: 256, Kinds: 1}
	change := func(changes ...func(w *api.Want)) api.Want {
		w := apart
		for _, c := range changes {
			c(&w)
		}
		return w
	}
	blocks := func(w *api.Want) { w.Blocks = a.Blocks }
	stride := func(w *api.Want) { w.Stride = a.Stride }
	kinds := func(w *api.Want) { w.Kinds = a.Kinds }
	counts := func(w *api.Want) { w.Least = 8 }
	for _, c := range []struct {
		what   string
		b      api.Want
		prefer int
		want   api.Errno
	}{
		{"a wish that is not valid, and no such number", api.Want{}, 65, api.ErrInvalid},
		{"no such number", apart, 65, api.ErrRange},
		{"no such number", apart, -1, api.ErrRange},
		{"no such number", a, -1 << 63, api.ErrRange},
		{"no such number", a, 1<<63 - 1, api.ErrRange},
		{"nothing agrees", apart, 64, api.ErrKind},
		{"blocks differ", change(stride, kinds, counts), 0, api.ErrKind},
		{"strides differ", change(blocks, kinds, counts), 0, api.ErrKind},
		{"no kind in common", change(blocks, stride, counts), 0, api.ErrKind},
		{"no number in common", change(blocks, stride, kinds), 0, api.ErrSize},
		{"too large as a whole", change(blocks, stride, kinds, counts), 0, api.ErrLimit},
	} {
		for _, pair := range [][2]api.Want{{a, c.b}, {c.b, a}} {
			if d, e := pool.Agree(pair[0], pair[1], c.prefer); d != (api.Deal{}) || e != c.want {
				t.Errorf("%s: Agree = %v, %d, not %d", c.what, d, e, c.want)
			}
		}
	}
	for _, w := range noWishes() {
		for _, pair := range [][2]api.Want{{a, w}, {w, a}, {w, w}} {
			if d, e := pool.Agree(pair[0], pair[1], 0); d != (api.Deal{}) || e != api.ErrInvalid {
				t.Errorf("Agree(%v, %v) = %v, %d", pair[0], pair[1], d, e)
			}
		}
	}
}

// Details: a size that is above its bound as a multiple of the stride, and memory that is too large by one byte.
func TestAgreeLimits(t *testing.T) {
	for _, c := range []struct {
		w      api.Want
		prefer int
		want   api.Errno
	}{
		{wish(1, 1, 1, 65536, 1, 1, 1), 0, api.OK},
		{wish(1, 1, 1, 65535, 256, 1, 1), 0, api.OK},
		{wish(1, 1, 1, 65536, 3, 1, 1), 0, api.ErrLimit},
		{wish(1, 1, 1, 65534, 3, 1, 1), 0, api.OK}, // 65,535
		{wish(1, 1, 1, 65535, 200, 1, 1), 0, api.ErrLimit},
		{wish(1, 64, 1, 62500, 1, 1, 1), 16, api.OK}, // 1,000,000
		{wish(1, 64, 1, 62501, 1, 1, 1), 16, api.ErrLimit},
		{wish(1, 64, 1, 62500, 1, 8, 1), 16, api.ErrLimit}, // four bytes between any two
		{wish(1, 64, 1, 62500, 1, 4, 1), 16, api.OK},
		{wish(1, 64, 1, 58817, 1, 8, 1), 17, api.ErrLimit}, // 1,000,001
		{wish(1, 64, 1, 58816, 1, 8, 1), 17, api.OK},
		{wish(1, 64, 1, 62500, 1, 1, 1), 17, api.ErrLimit},
		{wish(1, 15, 1, 62500, 1, 8, 1), 64, api.OK},
		{wish(50, 50, 8, 2500, 1, 1, 1), 0, api.OK},
		{wish(50, 50, 8, 2500, 4, 4, 1), 0, api.OK},
		{wish(50, 51, 8, 2500, 4, 4, 1), 51, api.ErrLimit},
		{wish(50, 50, 8, 2497, 4, 4, 1), 0, api.OK},
		{wish(50, 50, 8, 2501, 4, 4, 1), 0, api.ErrLimit},
	} {
		d, e := pool.Agree(c.w, c.w, c.prefer)
		if e != c.want || (e == api.OK) != (d != api.Deal{}) {
			t.Errorf("Agree of %v = %v, %d, not %d", c.w, d, e, c.want)
		}
	}
}

// bestDeal is Agree of wishes that are valid, found by trying all numbers.
func bestDeal(a, b api.Want, prefer int) (api.Deal, api.Errno) {
	d := api.Deal{Blocks: a.Blocks, Stride: a.Stride, Size: max(a.Size, b.Size), Align: max(a.Align, b.Align), Kind: -1}
	for bit := 7; bit >= 0; bit-- {
		if a.Kinds/(1<<bit)%2 == 1 && b.Kinds/(1<<bit)%2 == 1 {
			d.Kind = bit
		}
	}
	if a.Blocks != b.Blocks || a.Stride != b.Stride || d.Kind < 0 {
		return api.Deal{}, api.ErrKind
	}
	for n := 1; n <= bufferMost; n++ {
		common := n >= a.Least && n <= a.Most && n >= b.Least && n <= b.Most
		if common && d.Count < max(prefer, 1) {
			d.Count = n
		}
	}
	if d.Count == 0 {
		return api.Deal{}, api.ErrSize
	}
	for d.Size%d.Stride != 0 {
		d.Size++
	}
	if d.Size > sizeMost || laidOut(d, 0) > memoryMost {
		return api.Deal{}, api.ErrLimit
	}
	return d, api.OK
}

// laidOut is where a deal's last block ends.
func laidOut(d api.Deal, at int) int {
	for range d.Count * d.Blocks {
		for at%d.Align != 0 {
			at++
		}
		at += d.Size
	}
	return at
}

// 8.1, P8.2: Agree of drawn wishes is what trying all numbers finds, in either order, and fits both.
func TestAgreeDrawn(t *testing.T) {
	d, found := draws(8), map[api.Errno]int{}
	for range 20000 {
		a, b, prefer := d.wish(), d.wish(), d.among(0, d.below(65), d.below(8))
		if d.below(3) > 0 {
			b.Blocks, b.Stride, b.Size = a.Blocks, a.Stride, max(b.Size, a.Stride)
		}
		want, wantError := bestDeal(a, b, prefer)
		found[wantError]++
		for _, pair := range [][2]api.Want{{a, b}, {b, a}} {
			got, e := pool.Agree(pair[0], pair[1], prefer)
			if got != want || e != wantError {
				t.Fatalf("Agree(%v, %v, %d) = %v, %d, not %v, %d", pair[0], pair[1], prefer, got, e, want, wantError)
			}
			if e != api.OK {
				continue
			}
			if is, e := pool.Fits(got, pair[0]); !is || e != api.OK {
				t.Fatalf("Fits(%v, %v) = %v, %d", got, pair[0], is, e)
			}
			if _, e := pool.New(got); e != api.OK {
				t.Fatalf("New(%v) = %d", got, e)
			}
		}
	}
	for _, e := range []api.Errno{api.OK, api.ErrKind, api.ErrSize, api.ErrLimit} {
		if found[e] < 200 {
			t.Errorf("%d is told %d times", e, found[e])
		}
	}
}

// P8.2: all ranges of up to seven buffers, and all numbers that are preferred.
func TestCounts(t *testing.T) {
	w := usual()
	for n := range 7 * 7 * 7 * 7 * 9 {
		a, b, prefer := w, w, n%9
		a.Least, a.Most, b.Least, b.Most = n/9%7+1, n/63%7+1, n/441%7+1, n/3087+1
		if a.Least > a.Most || b.Least > b.Most {
			continue
		}
		want, wantError := bestDeal(a, b, prefer)
		if got, e := pool.Agree(a, b, prefer); got != want || e != wantError {
			t.Fatalf("Agree(%v, %v, %d) = %v, %d, not %v, %d", a, b, prefer, got, e, want, wantError)
		}
	}
}

// 8.1: Fits asks for all that a wish has.
func TestFits(t *testing.T) {
	good, w := deal(4, 2, 12, 4, 8, 2), usual()
	for _, c := range []struct {
		what   string
		change func(d *api.Deal, w *api.Want)
		want   bool
	}{
		{"as it is", func(d *api.Deal, w *api.Want) {}, true},
		{"the least number", func(d *api.Deal, w *api.Want) { w.Least = 4 }, true},
		{"too few", func(d *api.Deal, w *api.Want) { w.Least = 5 }, false},
		{"the greatest number", func(d *api.Deal, w *api.Want) { w.Most = 4 }, true},
		{"too many", func(d *api.Deal, w *api.Want) { w.Most = 3 }, false},
		{"fewer blocks", func(d *api.Deal, w *api.Want) { w.Blocks = 3 }, false},
		{"more blocks", func(d *api.Deal, w *api.Want) { w.Blocks = 1 }, false},
		{"the same size", func(d *api.Deal, w *api.Want) { w.Size = 12 }, true},
		{"too small", func(d *api.Deal, w *api.Want) { w.Size = 13 }, false},
		{"larger than asked", func(d *api.Deal, w *api.Want) { d.Size = 400 }, true},
		{"another stride", func(d *api.Deal, w *api.Want) { w.Stride = 2 }, false},
		{"another stride", func(d *api.Deal, w *api.Want) { d.Stride = 6 }, false},
		{"a greater alignment", func(d *api.Deal, w *api.Want) { d.Align = 16 }, true},
		{"too little alignment", func(d *api.Deal, w *api.Want) { w.Align = 16 }, false},
		{"another kind", func(d *api.Deal, w *api.Want) { w.Kinds = 255 - 4 }, false},
		{"this kind alone", func(d *api.Deal, w *api.Want) { w.Kinds = 4 }, true},
		{"the first kind", func(d *api.Deal, w *api.Want) { d.Kind, w.Kinds = 0, 1 }, true},
		{"the last kind", func(d *api.Deal, w *api.Want) { d.Kind, w.Kinds = 7, 128 }, true},
		{"the number of its bits", func(d *api.Deal, w *api.Want) { d.Kind, w.Kinds = 6, 6 }, false},
	} {
		d, w := good, w
		c.change(&d, &w)
		if is, e := pool.Fits(d, w); is != c.want || e != api.OK {
			t.Errorf("%s: Fits = %v, %d", c.what, is, e)
		}
	}
	for _, d := range noDeals() {
		if is, e := pool.Fits(d, w); is || e != api.ErrInvalid {
			t.Errorf("Fits(%v) = %v, %d", d, is, e)
		}
	}
	for _, w := range noWishes() {
		if is, e := pool.Fits(good, w); is || e != api.ErrInvalid {
			t.Errorf("Fits of %v = %v, %d", w, is, e)
		}
	}
}
