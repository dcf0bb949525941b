package shrink_test

import (
	"math/big"
	"slices"
	"strconv"
	"strings"
	"testing"

	"flatbed/api"
	"flatbed/shrink"
)

// TestEncodeBytes has pages whose bytes are written out.
func TestEncodeBytes(t *testing.T) {
	for _, c := range []struct {
		b    api.Bits
		kind int
		want string
	}{
		{draw("."), 1, "\x01\x00\x01\x00\x01\x00\x00\x00\x01\x00" + "\x93\x95\xaf\x9e\xba\xa7\x34\x55"},
		{draw("."), 2, "\x02\x00\x01\x00\x01\x00\x00\x00\x01\x40" + "\x58\xb5\xc0\xfd\x0a\x97\x39\xce"},
		{draw("."), 3, "\x03\x00\x01\x00\x01\x00\x00\x00\x01\x80" + "\xc4\xdf\x71\xa5\xc1\x46\x9f\x67"},
		{draw("."), 4, "\x04\x00\x01\x00\x01\x00\x00\x00\x04\x00\x00\x00\x00" + "\xd2\x3d\x2d\xc5\x99\xdf\xf3\xb7"},
		{draw("#"), 1, "\x01\x00\x01\x00\x01\x00\x00\x00\x01\x80" + "\x93\x95\x2f\x9e\xba\xa6\x5a\xd5"},
		{draw("#"), 2, "\x02\x00\x01\x00\x01\x00\x00\x00\x01\xa0" + "\x58\xb4\xe0\xfd\x0a\x95\xbd\x2e"},
		{draw("#"), 3, "\x03\x00\x01\x00\x01\x00\x00\x00\x01\x50" + "\xc4\xdf\xa1\xa5\xc1\x46\xf0\xf7"},
		{draw("#"), 4, "\x04\x00\x01\x00\x01\x00\x00\x00\x04\x7f\xff\xf8\x00" + "\xb2\xb2\x3e\x46\xfd\x6d\x40\x35"},
		// Rows do not begin with bytes of their own.
		{draw("#..", ".##", "###"), 1, summed("\x01\x00\x03\x00\x03\x00\x00\x00\x02\x8f\x80")},
		{draw("#..", ".##", "###"), 2, summed("\x02\x00\x03\x00\x03\x00\x00\x00\x03\xa6\x9c\x80")},
		{draw("#..", ".##", "###"), 3, summed("\x03\x00\x03\x00\x03\x00\x00\x00\x03\x04\x15\xd4")},
		{draw("#..", ".##", "###"), 4, summed("\x04\x00\x03\x00\x03\x00\x00\x00\x05\x8f\x7f\xf8\x00\x00")},
		{draw(".####.....#", ".#...#....#", ".....#...##", "###########"), 1, summed("\x01\x00\x0b\x00\x04\x00\x00\x00\x06\x78\x28\x84\x11\xff\xf0")},
		{draw(".####.....#", ".#...#....#", ".....#...##", "###########"), 2, summed("\x02\x00\x0b\x00\x04\x00\x00\x00\x08\x45\x32\x48\x88\xa8\xc8\x8e\x30")},
		{draw(".####.....#", ".#...#....#", ".....#...##", "###########"), 3, summed("\x03\x00\x0b\x00\x04\x00\x00\x00\x08\x28\xab\x04\x48\xb1\xd4\xc6\x00")},
		{draw(".####.....#", ".#...#....#", ".....#...##", "###########"), 4, summed("\x04\x00\x0b\x00\x04\x00\x00\x00\x09\x78\x2d\x96\xf1\xc9\x0e\xa5\x00\x00")},
	} {
		data, e := shrink.Encode(c.b, c.kind)
		wantText(t, strconv.Itoa(c.kind)+picture(c.b.P), data, e, c.want)
		back, e := shrink.Decode(c.want)
		wantBits(t, strconv.Itoa(c.kind)+picture(c.b.P), back, e, c.b)
	}
}

// wantKinds wants a page as all kinds, and back, and as the shortest of them.
func wantKinds(t *testing.T, what string, b api.Bits) {
	t.Helper()
	best, least := "", 0
	for kind := 1; kind <= 4; kind++ {
		want := encodeByPromise(b, kind)
		if best == "" || len(want) < len(best) {
			best, least = want, kind
		}
		data, e := shrink.Encode(b, kind)
		wantText(t, what, data, e, want)
		back, e := shrink.Decode(want)
		wantBits(t, what, back, e, b)
	}
	data, kind, e := shrink.Best(b)
	wantText(t, what, data, e, best)
	wantInt(t, what, kind, e, least)
}

func TestEncode(t *testing.T) {
	for _, l := range looks() {
		for _, size := range [][2]int{{1, 1}, {1, 9}, {9, 1}, {2, 2}, {3, 5}, {7, 7}, {8, 3}, {13, 11}, {16, 16}, {31, 2}, {64, 64}, {100, 40}, {5, 200}} {
			wantKinds(t, l.name, page(size[0], size[1], l.ink))
		}
	}
	for w := 1; w <= 3; w++ {
		for h := 1; h <= 3; h++ {
			for n := range 1 << (w * h) {
				wantKinds(t, "small", api.Bits{W: w, H: h, P: numberRow(n, w*h)})
			}
		}
	}
}

// TestEncodeKind has other numbers beside all kinds; ShrinkBest is none for a page alone.
func TestEncodeKind(t *testing.T) {
	for _, kind := range append(wrongNumbers(1, 4), 0, 5, 6, 255, 256, 257, 1<<32+1) {
		data, e := shrink.Encode(draw("#.#"), kind)
		failText(t, strconv.Itoa(kind), data, e, api.ErrKind)
		l, e := shrink.Strips(draw("#", "."), 1, kind)
		failList(t, strconv.Itoa(kind), l, e, api.ErrKind)
	}
}

func TestBest(t *testing.T) {
	for _, c := range []struct {
		b    api.Bits
		kind int
		long int
	}{
		{draw("."), 1, 1}, // of several the least kind
		{draw("#"), 1, 1},
		{draw("........"), 1, 1},
		{page(64, 64, looks()[0].ink), 3, 8},
		{page(4000, 1, looks()[0].ink), 3, 1},
		{page(16, 4, func(x, y int) bool { return y%2 == 1 }), 2, 5}, // as long as lines
		{page(64, 64, looks()[10].ink), 1, 512},
	} {
		data, kind, e := shrink.Best(c.b)
		wantInt(t, picture(c.b.P), kind, e, c.kind)
		wantText(t, picture(c.b.P), data, e, encodeByPromise(c.b, c.kind))
		wantInt(t, picture(c.b.P), len(data)-17, e, c.long)
	}
}

func TestSumOf(t *testing.T) {
	for text, want := range map[string]string{
		"":       "\xcb\xf2\x9c\xe4\x84\x22\x23\x25",
		"a":      "\xaf\x63\xdc\x4c\x86\x01\xec\x8c",
		"foobar": "\x85\x94\x41\x71\xf7\x39\x67\xe8",
	} {
		wantText(t, text, shrink.SumOf(text), api.OK, want)
	}
	whole := new(big.Int).Lsh(big.NewInt(1), 64)
	sum, _ := new(big.Int).SetString("14695981039346656037", 10)
	text := ""
	for i := range 1000 {
		wantText(t, text, shrink.SumOf(text), api.OK, string(sum.FillBytes(make([]byte, 8))))
		c := byte(number(3, i))
		text += string([]byte{c})
		sum.Xor(sum, big.NewInt(int64(c)))
		sum.Mul(sum, big.NewInt(1099511628211))
		sum.Mod(sum, whole)
	}
	for _, text := range []string{strings.Repeat("\x00", 1<<20), strings.Repeat("\xff", 5<<20), strings.Repeat("flatbed", 1<<20)} {
		wantText(t, text, shrink.SumOf(text), api.OK, sumByPromise(text))
	}
}

func failDecode(t *testing.T, what, data string, want api.Errno) {
	t.Helper()
	b, e := shrink.Decode(data)
	failBits(t, what, b, e, want)
}

// TestDecodeOrder has texts of which each one has all errors that come later, too, as far as they can be together.
func TestDecodeOrder(t *testing.T) {
	long := 2 * maxText
	failDecode(t, "too large", strings.Repeat("x", long+1), api.ErrLarge)
	failDecode(t, "too large", framed(1, 1, 1, strings.Repeat("\x00", long+1-17)), api.ErrLarge)
	failDecode(t, "as large as can be", strings.Repeat("x", long), api.ErrSyntax)
	failDecode(t, "as large as can be", framed(1, 1, 1, strings.Repeat("\x00", long-17)), api.ErrSyntax)
	failDecode(t, "empty", "", api.ErrSyntax)
	for n := range 17 {
		failDecode(t, "short", strings.Repeat("\x00", n), api.ErrSyntax)
	}
	failDecode(t, "no sum", strings.Repeat("\x00", 17), api.ErrSum)
	failDecode(t, "missing and no kind", summed("\x09\x00\x00\x00\x00\x00\x00\x00\x02\x00"), api.ErrSyntax)
	failDecode(t, "left and no kind", summed("\x09\x00\x00\x00\x00\x00\x00\x00\x00\x00"), api.ErrSyntax)
	failDecode(t, "very many missing", summed("\x01\x00\x01\x00\x01\xff\xff\xff\xff\x00"), api.ErrSyntax)
	for _, kind := range []int{0, 5, 6, 9, 128, 255} {
		for _, size := range [][2]int{{0, 0}, {1, 1}, {4000, 4000}, {65535, 0}} {
			failDecode(t, "kind", framed(kind, size[0], size[1], ""), api.ErrKind)
			failDecode(t, "kind", framed(kind, size[0], size[1], "\x00"), api.ErrKind)
			text := framed(kind, size[0], size[1], "\x00")
			failDecode(t, "sum", text[:len(text)-1]+string(text[len(text)-1] ^ 1)[:1], api.ErrSum)
		}
	}
	for kind := 1; kind <= 4; kind++ {
		for _, size := range [][2]int{{0, 0}, {0, 1}, {1, 0}, {4001, 1}, {1, 4001}, {4001, 0}, {65535, 65535}} {
			failDecode(t, "size", framed(kind, size[0], size[1], "\x00"), api.ErrRange)
			failDecode(t, "size", framed(kind, size[0], size[1], ""), api.ErrRange)
		}
		for _, size := range [][2]int{{4000, 4000}, {4000, 263}, {263, 4000}, {1025, 1024}} {
			failDecode(t, "size", framed(kind, size[0], size[1], "\x00"), api.ErrLarge)
			failDecode(t, "size", framed(kind, size[0], size[1], ""), api.ErrLarge)
		}
		for _, size := range [][2]int{{1, 1}, {4000, 262}, {1024, 1024}} {
			failDecode(t, "no data", framed(kind, size[0], size[1], ""), api.ErrSyntax)
		}
	}
}

// TestDecodeChanged changes each byte, cuts and lengthens.
func TestDecodeChanged(t *testing.T) {
	for kind := 1; kind <= 4; kind++ {
		text := encoded(t, draw("#..#.", ".##..", "###.#"), kind)
		for i := range len(text) {
			want := api.ErrSum
			if i >= 5 && i < 9 {
				want = api.ErrSyntax
			}
			for v := range 256 {
				if byte(v) != text[i] {
					failDecode(t, "changed", text[:i]+string([]byte{byte(v)})+text[i+1:], want)
				}
			}
			failDecode(t, "cut", text[:i], api.ErrSyntax)
			failDecode(t, "cut", text[i+1:], api.ErrSyntax)
			failDecode(t, "one missing", text[:i]+text[i+1:], api.ErrSyntax)
			failDecode(t, "one more", text[:i]+"\x00"+text[i:], api.ErrSyntax)
		}
		failDecode(t, "one more", text+"\x00", api.ErrSyntax)
		failDecode(t, "twice", text+text, api.ErrSyntax)
	}
}

// TestDecodeAll has all data of two bytes: those are read that are the data of a page.
func TestDecodeAll(t *testing.T) {
	for kind := 1; kind <= 3; kind++ {
		for _, size := range [][2]int{{3, 3}, {1, 5}, {9, 1}} {
			pages := map[string]api.Bits{}
			for n := range 1 << (size[0] * size[1]) {
				b := api.Bits{W: size[0], H: size[1], P: numberRow(n, size[0]*size[1])}
				pages[dataByPromise(b, kind)] = b
			}
			for v := range 1 << 16 {
				data := string([]byte{byte(v >> 8), byte(v)})
				tryData(t, framed(kind, size[0], size[1], data), pages[data])
				tryData(t, framed(kind, size[0], size[1], data[1:]), pages[data[1:]])
			}
		}
	}
}

// tryData wants the page; one without pixels stands for none.
func tryData(t *testing.T, text string, want api.Bits) {
	t.Helper()
	b, e := shrink.Decode(text)
	if want.P == nil {
		failBits(t, text, b, e, api.ErrSyntax)
	} else {
		wantBits(t, text, b, e, want)
	}
}

// TestDecodeOthers changes data, with the right sum and number of bytes: what is read is written just so.
func TestDecodeOthers(t *testing.T) {
	read := 0
	for kind := 1; kind <= 4; kind++ {
		for _, l := range looks() {
			b := page(19, 9, l.ink)
			data := dataByPromise(b, kind)
			for i := range len(data) {
				for _, c := range []byte{1, 2, 8, 0x80, 0xff} {
					for _, other := range []string{
						data[:i] + string([]byte{data[i] ^ c}) + data[i+1:],
						data[:i] + string([]byte{data[i] + c}) + data[i:],
						data[:i] + data[i+1:],
						data[:i],
					} {
						text := framed(kind, 19, 9, other)
						if got, e := shrink.Decode(text); e != api.OK {
							failBits(t, l.name, got, e, api.ErrSyntax)
						} else if encodeByPromise(got, kind) != text {
							t.Error(l.name, kind, "is read as a page that is written otherwise")
						} else {
							read++
						}
					}
				}
			}
			tryData(t, framed(kind, 19, 9, data+"\x00"), api.Bits{})
			tryData(t, framed(kind, 19, 9, "\x00"+data+"\x00"), api.Bits{})
		}
	}
	if read < 1000 {
		t.Error("only", read, "were read")
	}
}

// TestDecodeContext has numbers beside those of pages: between two of them, and beyond all.
func TestDecodeContext(t *testing.T) {
	for _, l := range looks() {
		b := page(12, 12, l.ink)
		data := adaptiveByPromise(b)
		n := new(big.Int).SetBytes([]byte(data))
		for _, more := range []int64{-1, 1, 2, 1000} {
			other := new(big.Int).Add(n, big.NewInt(more))
			if other.Sign() >= 0 {
				tryData(t, framed(4, 12, 12, string(other.FillBytes(make([]byte, len(data))))), api.Bits{})
			}
		}
	}
	for _, data := range []string{"\xff\xff\xff\xff", "\xff\xff\xff\xfe", "\xff\xff\xff\xff\xff\xff\xff\xff", strings.Repeat("\xff", 1000), "\x80\x00\x00\x00", "\x00\x00\x00\x00\x00", "\x00\x00\x00", "\x00\x00\x00\x01"} {
		tryData(t, framed(4, 1, 1, data), api.Bits{})
		tryData(t, framed(4, 300, 100, data), api.Bits{})
		tryData(t, framed(4, 1024, 1024, data), api.Bits{})
	}
	tryData(t, framed(4, 1, 1, "\x00\x00\x00\x00"), draw("."))
	tryData(t, framed(4, 1, 1, "\x7f\xff\xf8\x00"), draw("#"))
}

// TestDecodeRows has data of runs and lines that lead beyond a row, or have more or fewer than the rows.
func TestDecodeRows(t *testing.T) {
	bits := func(kind, w, h int, bits string) string { return framed(kind, w, h, packedByPromise(bits)) }
	for _, c := range []string{
		bits(2, 4, 1, gammaByPromise(6)),                            // 5 of 4
		bits(2, 4, 1, gammaByPromise(4)),                            // 3 of 4
		bits(2, 4, 1, "1"+"1"+gammaByPromise(5)),                    // an empty run of ink
		bits(2, 4, 1, gammaByPromise(3)+"1"+"1"+gammaByPromise(3)),  // empty runs between
		bits(2, 4, 2, gammaByPromise(5)+gammaByPromise(5)+"000001"), // a bit more
		bits(2, 4, 2, gammaByPromise(5)+"000000"+"00000000"),        // a row less
		bits(2, 4, 1, gammaByPromise(1<<20)), bits(2, 4, 1, strings.Repeat("1", 1<<20)), bits(2, 4, 1, strings.Repeat("0", 1<<20)),
		bits(3, 4, 2, "1"+"000000001"), bits(3, 4, 2, "1"), bits(3, 4, 2, "11"+"000001"), bits(3, 4, 2, "11"+"000000"+"00000000"),
		bits(3, 8, 1, "001"+"0001010"+"1"), bits(3, 8, 1, "001"+"0001001"+"1"), bits(3, 8, 1, "0001"),
		bits(3, 4000, 262, strings.Repeat("1", 261)), bits(2, 4000, 262, strings.Repeat("1", 262)),
		bits(1, 3, 3, "111111111"+"0000001"), bits(1, 3, 3, "111111111"+"1"), bits(1, 3, 3, "11111111"), bits(1, 3, 3, strings.Repeat("0", 17)),
	} {
		failDecode(t, c, c, api.ErrSyntax)
	}
	b, e := shrink.Decode(bits(2, 4, 2, gammaByPromise(5)+"1"+gammaByPromise(5)))
	wantBits(t, "runs", b, e, draw("....", "####"))
	b, e = shrink.Decode(bits(3, 4, 2, "11"))
	wantBits(t, "lines", b, e, draw("....", "...."))
}

// TestEncodeLarge has pages of the greatest sizes, as all kinds.
func TestEncodeLarge(t *testing.T) {
	for i, size := range [][2]int{{4000, 262}, {262, 4000}, {1024, 1024}, {4000, 1}, {1, 4000}, {3999, 262}} {
		for k, l := range looks() {
			b := page(size[0], size[1], l.ink)
			if len(b.P) > 4000 && k%4 != i%4 {
				continue
			}
			lengths := []int{}
			for kind := 1; kind <= 4; kind++ {
				data := encoded(t, b, kind)
				lengths = append(lengths, len(data))
				back, e := shrink.Decode(data)
				wantBits(t, l.name, back, e, b)
			}
			wantInt(t, l.name, lengths[0], api.OK, 17+(size[0]*size[1]+7)/8)
			best, kind, e := shrink.Best(b)
			wantInt(t, l.name, len(best), e, slices.Min(lengths))
			wantInt(t, l.name, kind, e, 1+slices.Index(lengths, len(best)))
		}
	}
	for _, size := range [][2]int{{4000, 262}, {262, 4000}} {
		b := page(size[0], size[1], func(x, y int) bool { return (x*x/7+y*3)%5 < 2 })
		for kind := 1; kind <= 3; kind++ {
			data, e := shrink.Encode(b, kind)
			wantText(t, "large", data, e, encodeByPromise(b, kind))
		}
	}
}
