package page_test

import (
	"bytes"
	"math"
	"slices"
	"strings"
	"testing"

	"wagtail/api"
	"wagtail/page"
)

// P15.2: the classes' numbers, by which Classes counts.
func TestClassNumbers(t *testing.T) {
	if page.Blank != 0 || page.Right != 1 || page.Torn != 2 {
		t.Error(page.Blank, page.Right, page.Torn)
	}
}

// P15.2: 256 bytes of 255 are Blank, and no others.
func TestBlank(t *testing.T) {
	if page.Class(blank()) != page.Blank {
		t.Error("the chapter's example:", page.Class(blank()))
	}
	if h, data, e := page.Get(blank()); h != (api.Head{}) || data != "" || e != api.ErrNone {
		t.Errorf("Get: %v, %q, error %d", h, data, e)
	}
	for k := range 256 {
		for x := range 255 {
			b := blank()
			b[k] = byte(x)
			if hold(t, b) != page.Torn {
				t.Fatalf("with %d at %d: class %d", x, k, page.Class(b))
			}
		}
	}
}

// P15.2: bytes that are fewer or more than a page's are Torn, of nothing but 255, of 0, and of a page that is cut, or gone on.
func TestOtherLengths(t *testing.T) {
	if page.Class(nil) != page.Torn {
		t.Errorf("Class(nil) = %d", page.Class(nil))
	}
	if h, data, e := page.Get(nil); h != (api.Head{}) || data != "" || e != api.ErrForm {
		t.Errorf("Get(nil) = %v, %q, error %d", h, data, e)
	}
	long := pages(t)[7]
	for _, n := range []int{0, 1, 2, 3, 4, 23, 24, 25, 128, 251, 252, 253, 254, 255, 257, 258, 260, 300, 508, 511, 512, 513, 65536, 65536 + 256} {
		for _, b := range [][]byte{bytes.Repeat([]byte{255}, n), make([]byte, n), bytes.Repeat(long, n/256+1)[:n], slices.Concat(long, blank(), make([]byte, n))[:n]} {
			if hold(t, b) != page.Torn {
				t.Errorf("%d bytes: class %d", n, page.Class(b))
			}
		}
	}
	hold(t, nil)
	hold(t, []byte{})
}

// P15.2: a page's bytes, in spare room and without.
func TestRight(t *testing.T) {
	for _, b := range pages(t) {
		if hold(t, b) != page.Right {
			t.Fatalf("%d is of class %d", b, page.Class(b))
		}
		for _, behind := range [][]byte{{0}, {255}, b} {
			room := slices.Concat(b, behind)
			if hold(t, room[:256]) != page.Right || hold(t, room[:257]) != page.Torn || hold(t, room[:255]) != page.Torn {
				t.Errorf("%d in spare room", b)
			}
		}
	}
}

// P15.2: a page with a bit turned is Torn, whichever it is.
func TestEachBitTurned(t *testing.T) {
	for _, b := range pages(t) {
		for k := range b {
			for i := range 8 {
				b[k] ^= 1 << i
				if page.Class(b) != page.Torn {
					t.Fatalf("%d, in which bit %d of %d was turned, is of class %d", b, i, k, page.Class(b))
				}
				b[k] ^= 1 << i
			}
		}
	}
}

// P15.2: a page with a byte changed, to some other values: it is Torn, but where as many bits are 0, and the head may be.
func TestEachByteChanged(t *testing.T) {
	for _, b := range pages(t)[20:50] {
		for k, was := range b {
			for _, x := range []byte{was + 1, was - 1, ^was, 0, 255, was ^ 3, was ^ 129, was<<4 | was>>4} {
				b[k] = x
				hold(t, b)
			}
			b[k] = was
		}
	}
}

// P15.2: a page with a byte changed, to each other value.
func TestEachByteEachValue(t *testing.T) {
	b := put(t, head(3, 2, 14, 0x01020304, 0x05060708, 0x1122, 100), texts(100)[4])
	for k, was := range b {
		for x := range 256 {
			b[k] = byte(x)
			hold(t, b)
		}
		b[k] = was
	}
}

// P15.2: a page with a byte changed, to each other value, the count of its bits put right: it is another page, or none.
func TestEachByteWithTheCountPutRight(t *testing.T) {
	for _, h := range few()[2:5] {
		was := put(t, h, texts(h.Len)[2])
		for k := range 252 {
			for _, x := range []byte{0, 1, 2, 3, 4, 5, 6, 7, 8, 13, 14, 15, 16, 17, 18, 32, 64, 99, 101, 127, 128, 227, 228, 229, 230, 254, 255} {
				b := slices.Clone(was[:252])
				b[k] = x
				hold(t, sealed(b))
			}
		}
	}
}

// P15.2: each byte of the head has each value, the count of the bits put right.
func TestEachByteOfTheHead(t *testing.T) {
	was := put(t, head(2, 0, 16, 1, 1, 9, 3), "xyz")
	for k := range 24 {
		for x := range 256 {
			b := slices.Clone(was[:252])
			b[k] = byte(x)
			hold(t, sealed(b))
		}
	}
}

// P15.2: a head's numbers out of their bounds, one alone, the count of the bits put right.
func TestHeadsOutOfBounds(t *testing.T) {
	for _, h := range few() {
		for _, x := range others(h) {
			fits := x.Kind>>8 == 0 && x.Index>>8 == 0 && x.Count>>8 == 0 && x.Lpn>>16 == 0 && x.Len>>16 == 0
			if !fits || mayBe(x) {
				continue
			}
			for _, data := range texts(min(x.Len, 228)) {
				if hold(t, laid(x, data)) != page.Torn {
					t.Fatalf("%v is of class %d", x, page.Class(laid(x, data)))
				}
			}
		}
	}
}

// P15.2: a head's numbers at their edges, each with each other, so that none, one, or several are wrong at once, the count of the bits put right.
func TestHeadsOutOfBoundsTogether(t *testing.T) {
	ends := []uint64{0, 1<<31 - 1, 1 << 31, math.MaxUint64}
	for _, kind := range []int{0, 1, 5, 6, 255} {
		for _, count := range []int{0, 1, 16, 17} {
			for _, index := range []int{0, max(count-1, 0), count, 255} {
				for i, batch := range ends {
					for k, open := range ends {
						h := head(kind, index, count, batch, open, 65535*(i&1), []int{0, 228, 229, 65535}[(i+k)%4])
						hold(t, laid(h, texts(min(h.Len, 228))[2]))
					}
				}
			}
		}
	}
}

// P15.2: the byte that is 0, and each of the first bytes of Batch, Open and Len, not 0.
func TestBytesThatAreZero(t *testing.T) {
	for _, h := range few() {
		for _, k := range []int{3, 4, 5, 6, 7, 12, 13, 14, 15, 22, 252, 253} {
			for _, x := range []byte{1, 2, 128, 255} {
				b := laid(h, texts(h.Len)[2])
				b[k] = x
				if k < 252 {
					b = sealed(b)
				}
				if hold(t, b) != page.Torn {
					t.Errorf("%v with %d at %d: class %d", h, x, k, page.Class(b))
				}
			}
		}
	}
}

// P15.2: the bytes behind the data are 255, each of them.
func TestBehindTheData(t *testing.T) {
	for _, size := range []int{0, 1, 100, 226, 227} {
		for k := 24 + size; k < 252; k++ {
			for _, x := range []byte{0, 1, 127, 128, 254} {
				b := bare(head(3, 0, 1, 5, 5, 5, size), strings.Repeat("x", size))
				b[k] = x
				if hold(t, sealed(b)) != page.Torn {
					t.Fatalf("of Len %d, with %d at %d: class %d", size, x, k, page.Class(sealed(b)))
				}
			}
		}
	}
}

// P15.2: data that end in bytes of 255 are as long as Len says.
func TestDataThatEndIn255(t *testing.T) {
	for size := range 229 {
		b := bare(head(3, 0, 1, 5, 5, 5, size), "ab")
		_, data, e := page.Get(sealed(b))
		if size < 2 {
			if e != api.ErrForm || data != "" {
				t.Errorf("of Len %d: %q, error %d", size, data, e)
			}
			continue
		}
		if e != api.OK || data != "ab"+strings.Repeat("\xff", size-2) {
			t.Errorf("of Len %d: %q, error %d", size, data, e)
		}
	}
}

// P15.2: the last four bytes are how many bits of the others are 0, and no other number.
func TestOtherCounts(t *testing.T) {
	for _, was := range pages(t)[:12] {
		n := got(was, 252, 4)
		for _, x := range []uint64{0, 1, n - 1, n + 1, n + 256, n - 256, n + 65536, n + 1<<24, n + 1<<31, 2016 - n, 2048 - n, n + 32, 255 - n, n << 8, n << 16, math.MaxUint32, math.MaxUint32 - n, math.MaxUint32 - 31} {
			if x&math.MaxUint32 == n {
				continue
			}
			if b := slices.Concat(was[:252], number(4, x)); hold(t, b) != page.Torn {
				t.Errorf("a count of %d, not %d: class %d", x, n, page.Class(b))
			}
		}
	}
	if b := slices.Concat(blank()[:252], number(4, 0)); hold(t, b) != page.Torn {
		t.Errorf("252 bytes of 255, and 0: class %d", page.Class(b))
	}
	if b := make([]byte, 256); hold(t, b) != page.Torn || hold(t, sealed(b)) != page.Torn {
		t.Errorf("bytes of 0: class %d, %d", page.Class(b), page.Class(sealed(b)))
	}
}

// P15.2: bytes of many looks, the count of the bits put right and not.
func TestAnyBytes(t *testing.T) {
	x := dice(152)
	seen := [3]int{}
	for i := range 6000 {
		b := x.bytes(256, 1+i%5)
		if i%2 > 0 {
			h := x.head()
			b = laid(h, string(x.bytes(h.Len, 1+i%3)))
		}
		for range x.below(3) {
			b[x.below(256)] = byte(x.below(256))
		}
		if i%4 > 1 {
			b = sealed(b)
		}
		seen[hold(t, b)]++
	}
	if seen[page.Right] < 500 || seen[page.Torn] < 500 {
		t.Error(seen)
	}
}

// P15.2: Classes counts none, one, and many, whatever their order is.
func TestClasses(t *testing.T) {
	right, torn := pages(t)[9], make([]byte, 256)
	if n := page.Classes(); n != [3]int{} {
		t.Error(n)
	}
	if n := page.Classes(nil, []byte{}, right[:255], blank()[:255]); n != [3]int{0, 0, 4} {
		t.Error(n)
	}
	if n := page.Classes(blank(), right, blank(), torn, right, right); n != [3]int{2, 3, 1} {
		t.Error(n)
	}
	x := dice(9)
	var all [][]byte
	want := [3]int{}
	for range 700 {
		if n := page.Classes(all...); n != want {
			t.Fatalf("%d, not %d", n, want)
		}
		c := x.below(3)
		all = append(all, [][]byte{blank(), right, torn}[c])
		want[c]++
	}
	slices.Reverse(all)
	if n := page.Classes(all...); n != want {
		t.Errorf("%d, not %d", n, want)
	}
}
