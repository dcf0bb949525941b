package page_test

import (
	"strings"
	"testing"

	"flatbed/api"
	"flatbed/page"
)

func wantChecked(t *testing.T, size [2]int, pixels int, want api.Errno) {
	t.Helper()
	if e := page.CheckGray(api.Gray{W: size[0], H: size[1], P: make([]byte, pixels)}); e != want {
		t.Errorf("CheckGray %v with %d pixels: %d, want %d", size, pixels, e, want)
	}
	if e := page.CheckBits(api.Bits{W: size[0], H: size[1], P: make([]bool, pixels)}); e != want {
		t.Errorf("CheckBits %v with %d pixels: %d, want %d", size, pixels, e, want)
	}
}

func TestCheckSizes(t *testing.T) {
	for size, want := range badSizes() {
		wantChecked(t, size, 0, want)
		wantChecked(t, size, 3, want)
	}
	for _, size := range goodSizes() {
		n := size[0] * size[1]
		wantChecked(t, size, n, api.OK)
		wantChecked(t, size, n-1, api.ErrForm)
		wantChecked(t, size, n+1, api.ErrForm)
		wantChecked(t, size, 0, api.ErrForm)
	}
}

func TestIsName(t *testing.T) {
	long := strings.Repeat("a", 40)
	for _, s := range []string{"a", "z", "a1", "b0", "z9", "a-", "a--b", "x-1-y", long, long[1:] + "9"} {
		if !page.IsName(s) {
			t.Errorf("%q is a name", s)
		}
	}
	for _, s := range []string{"", "1", "1a", "0", "-", "-a", "A", "aB", "Za", "a b", " a", "a ", "a_b", "a.b",
		"a\n", "a\x00", "\x00", "a`", "a{", "`a", "{a", "a/", "a:", "a,", "ä", "aä", "a\xff", long + "a", long + "\n"} {
		if page.IsName(s) {
			t.Errorf("%q is no name", s)
		}
	}
}

func TestBlank(t *testing.T) {
	for _, size := range append(goodSizes(), [2]int{3, 2}) {
		b, e := page.Blank(size[0], size[1])
		if e != api.OK || !sameBits(b, plain(size[0], size[1])) {
			t.Error(size, b.W, b.H, len(b.P), e)
		}
	}
	for size, want := range badSizes() {
		b, e := page.Blank(size[0], size[1])
		failBits(t, "Blank", b, e, want)
	}
}

func TestCheckSize(t *testing.T) {
	for size, want := range map[[2]int]api.Errno{
		{1, 1}: api.OK, {4000, 1}: api.OK, {1, 4000}: api.OK, {1024, 1024}: api.OK, {4000, 262}: api.OK,
		{0, 1}: api.ErrRange, {1, 0}: api.ErrRange, {-1, -1}: api.ErrRange, {4001, 1}: api.ErrRange, {1, 4001}: api.ErrRange,
		{mostInt, mostInt}: api.ErrRange, {leastInt, 1}: api.ErrRange, {1 << 32, 1 << 32}: api.ErrRange,
		{1025, 1024}: api.ErrLarge, {4000, 263}: api.ErrLarge, {4000, 4000}: api.ErrLarge,
	} {
		if e := page.CheckSize(size[0], size[1]); e != want {
			t.Error(size, e)
		}
	}
}

func TestCheckPlace(t *testing.T) {
	for box, want := range map[api.Box]api.Errno{
		{W: 1, H: 1}: api.OK, {W: 5, H: 3}: api.OK, {X: 4, Y: 2, W: 1, H: 1}: api.OK, {X: 2, Y: 1, W: 3, H: 2}: api.OK,
		{}: api.ErrPlace, {W: 0, H: 1}: api.ErrPlace, {W: 1, H: 0}: api.ErrPlace, {W: -1, H: 1}: api.ErrPlace, {X: -1, W: 1, H: 1}: api.ErrPlace, {Y: -1, W: 1, H: 1}: api.ErrPlace,
		{X: 5, W: 1, H: 1}: api.ErrPlace, {Y: 3, W: 1, H: 1}: api.ErrPlace, {W: 6, H: 1}: api.ErrPlace, {W: 1, H: 4}: api.ErrPlace, {X: 3, W: 3, H: 1}: api.ErrPlace, {Y: 2, W: 1, H: 2}: api.ErrPlace,
		{X: mostInt, W: mostInt, H: 1}: api.ErrPlace, {Y: mostInt, W: 1, H: mostInt}: api.ErrPlace, {X: leastInt, W: mostInt, H: 1}: api.ErrPlace, {W: leastInt, H: 1}: api.ErrPlace,
	} {
		if e := page.CheckPlace(5, 3, box); e != want {
			t.Error(box, e)
		}
	}
}

func TestNameChecker(t *testing.T) {
	first, second := page.NameChecker(), page.NameChecker()
	for _, c := range []struct {
		name string
		want api.Errno
	}{{"a", api.OK}, {"b", api.OK}, {"a", api.ErrTwice}, {"A", api.ErrName}, {"", api.ErrName}, {"A", api.ErrName}, {"c", api.OK}, {"b", api.ErrTwice}} {
		if e := first(c.name); e != c.want {
			t.Errorf("%q: %d, want %d", c.name, e, c.want)
		}
	}
	if e := second("a"); e != api.OK {
		t.Error("two lists know each other's names", e)
	}
}
