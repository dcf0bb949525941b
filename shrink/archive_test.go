package shrink_test

import (
	"slices"
	"strconv"
	"strings"
	"testing"

	"flatbed/api"
	"flatbed/shrink"
)

// wantArchive wants what an archive has.
func wantArchive(t *testing.T, archive string, want []api.Named) {
	t.Helper()
	l, e := shrink.List(archive)
	if e != api.OK || len(l) != len(want) {
		t.Fatal("List", len(l), e)
	}
	at := 6
	for _, n := range want {
		at += 1 + len(n.Name) + 4
	}
	for i, n := range want {
		if l[i].Name != n.Name || l[i].At != at {
			t.Error("List", i, l[i], at)
		}
		at += l[i].Long
		b, e := shrink.Decode(archive[l[i].At:at])
		wantBits(t, n.Name, b, e, n.Bits)
		b, e = shrink.Take(archive, n.Name)
		wantBits(t, n.Name, b, e, n.Bits)
	}
	if at+8 != len(archive) {
		t.Error("List leaves bytes", at, len(archive))
	}
	n, e := shrink.Check(archive)
	wantInt(t, "Check", n, e, len(want))
}

func TestPack(t *testing.T) {
	var many []api.Named
	for i, l := range looks() {
		many = append(many, api.Named{Name: "p" + strconv.Itoa(i), Bits: page(20+7*i, 30-2*i, l.ink)})
	}
	longest := []api.Named{named(strings.Repeat("a", 40), "#"), named("z-"+strings.Repeat("9", 38), "."), named("a", ".#")}
	for _, l := range [][]api.Named{nil, {}, three(), three()[:1], many, longest} {
		for kind := 1; kind <= 5; kind++ {
			archive, e := shrink.Pack(l, kind)
			wantText(t, strconv.Itoa(kind), archive, e, archiveByPromise(l, kind))
			wantArchive(t, archive, l)
		}
	}
	empty, e := shrink.Pack(nil, 5)
	wantText(t, "empty", empty, e, summed("FBA1\x00\x00"))
	one, e := shrink.Pack([]api.Named{named("ab", "#")}, 1)
	head := "FBA1\x00\x01" + "\x02ab\x00\x00\x00\x12"
	wantText(t, "one", one, e, head+encodeByPromise(draw("#"), 1)+sumByPromise(head))
}

// smallPages are so many pages with the names p0, p1, ..
func smallPages(count int) []api.Named {
	var l []api.Named
	for i := range count {
		l = append(l, api.Named{Name: "p" + strconv.Itoa(i), Bits: page(1+i%13, 1+i%7, looks()[i%12].ink)})
	}
	return l
}

func TestPackMany(t *testing.T) {
	l := smallPages(501)
	archive, e := shrink.Pack(l[:500], 5)
	wantText(t, "500", archive, e, archiveByPromise(l[:500], 5))
	wantArchive(t, archive, l[:500])
	for _, bad := range [][]api.Named{l, slices.Repeat(l[:1], 501), make([]api.Named, 501), make([]api.Named, 1<<16)} {
		for _, kind := range []int{1, 5, 0, -1, 6} {
			archive, e := shrink.Pack(bad, kind)
			failText(t, "too many", archive, e, api.ErrLarge)
		}
	}
	next, e := shrink.Add(archive, l[500], 1)
	failText(t, "too many", next, e, api.ErrLarge)
	most := archived(t, l[:499], 2)
	next, e = shrink.Add(most, l[499], 3)
	if e != api.OK || len(next) == 0 {
		t.Error("Add", e)
	}
	wantArchive(t, next, l[:500])
}

// badPages have no right name, or no right page.
func badPages() map[api.Errno]api.Named {
	return map[api.Errno]api.Named{
		api.ErrName:  {Name: "A", Bits: api.Bits{}},
		api.ErrTwice: {Name: "a", Bits: api.Bits{W: 4001}},
		api.ErrRange: {Name: "r", Bits: api.Bits{W: 4001, H: 4000}},
		api.ErrLarge: {Name: "l", Bits: api.Bits{W: 1025, H: 1024}},
		api.ErrForm:  {Name: "f", Bits: api.Bits{W: 1, H: 1}},
	}
}

// TestPackOrder has two bad pages behind good ones: the first one decides, whatever the kind is.
func TestPackOrder(t *testing.T) {
	bad := badPages()
	for want, first := range bad {
		for _, second := range bad {
			for _, kind := range []int{1, 4, 5, 0, 6, -1, mostInt} {
				archive, e := shrink.Pack([]api.Named{named("a", "#"), named("b", "."), first, named("c", "#"), second, named("b", "#")}, kind)
				failText(t, "Pack", archive, e, want)
			}
		}
	}
	for _, name := range []string{"", "A", "1a", "-a", "a b", "a_", "ä", "a\x00", "a.", strings.Repeat("a", 41), strings.Repeat("a", 256), strings.Repeat("a", 257)} {
		archive, e := shrink.Pack([]api.Named{named(name, "#")}, 9)
		failText(t, name, archive, e, api.ErrName)
	}
	for _, kind := range append(wrongNumbers(1, 5), 0, 6, 255, 257, 1<<32+1) {
		for _, l := range [][]api.Named{nil, three(), smallPages(500)} {
			archive, e := shrink.Pack(l, kind)
			failText(t, strconv.Itoa(kind), archive, e, api.ErrKind)
		}
	}
}

// fullPages are pages that make an archive of 4 * MaxText bytes, if they are packed plainly, and more by that much.
func fullPages(t *testing.T, more int) []api.Named {
	t.Helper()
	left := 4*maxText + more - 14
	var l []api.Named
	for _, n := range "abcdefghijklmnopqrstuvwxyzabcde" {
		name := strings.Repeat(string(n), 1+len(l)/26)
		l = append(l, api.Named{Name: name, Bits: page(1024, 1024, looks()[0].ink)})
		left -= 5 + len(name) + 17 + 1<<17
	}
	data := left - 5 - len("last") - 17
	for w := 1; w <= 4000; w++ {
		if h := 8 * data / w; h <= 4000 && (w*h+7)/8 == data {
			return append(l, api.Named{Name: "last", Bits: page(w, h, looks()[1].ink)})
		}
	}
	t.Fatal("no page has so many bytes", data)
	return nil
}

func TestPackLarge(t *testing.T) {
	full := fullPages(t, 0)
	archive := archived(t, full, 1)
	wantInt(t, "full", len(archive), api.OK, 4*maxText)
	wantArchive(t, archive, full)
	for more := 1; more <= 3; more++ {
		none, e := shrink.Pack(fullPages(t, more), 1)
		failText(t, "too large", none, e, api.ErrLarge)
	}
	half := page(1024, 1024, looks()[10].ink)
	var many []api.Named
	for i := range 500 {
		many = append(many, api.Named{Name: "p" + strconv.Itoa(i), Bits: half})
	}
	none, e := shrink.Pack(many, 2)
	failText(t, "too large", none, e, api.ErrLarge)
	// The last page comes in by Add, too, and not one that has a byte more.
	last := len(full) - 1
	most := archived(t, full[:last], 1)
	next, e := shrink.Add(most, full[last], 1)
	wantText(t, "full", next, e, archive)
	over := fullPages(t, 1)
	none, e = shrink.Add(most, over[last], 1)
	failText(t, "too large", none, e, api.ErrLarge)
	none, e = shrink.Add(archive, named("small", "#"), 1)
	failText(t, "too large", none, e, api.ErrLarge)
}

func failArchive(t *testing.T, what, archive string, want api.Errno) {
	t.Helper()
	l, e := shrink.List(archive)
	failList(t, what, l, e, want)
	for _, name := range []string{"a", "zz", "", "A"} {
		b, e := shrink.Take(archive, name)
		failBits(t, what, b, e, want)
		next, e := shrink.Add(archive, api.Named{Name: name}, 0)
		failText(t, what, next, e, want)
	}
	n, e := shrink.Check(archive)
	failInt(t, what, n, e, want)
}

func TestListSyntax(t *testing.T) {
	archive := archived(t, three(), 1)
	for i := range len(archive) {
		failArchive(t, "cut", archive[:i], api.ErrSyntax)
		failArchive(t, "cut", archive[i+1:], api.ErrSyntax)
		failArchive(t, "one missing", archive[:i]+archive[i+1:], api.ErrSyntax)
	}
	failArchive(t, "one more", archive+"\x00", api.ErrSyntax)
	failArchive(t, "twice", archive+archive, api.ErrSyntax)
	empty := archived(t, nil, 1)
	for i := range len(empty) {
		failArchive(t, "cut", empty[:i], api.ErrSyntax)
	}
	for _, head := range []string{
		"FBA1", "FBA1\x00", "FBA1\x00\x01", "FBA1\x00\x01\x01", "FBA1\x00\x01\x01a", "FBA1\x00\x01\x01a\x00\x00\x00", "FBA1\x00\x01\x01a\x00\x00\x00\x01",
		"FBA1\x00\x01\x01a\xff\xff\xff\xff", "FBA1\xff\xff", "FBA1\xff\xff" + strings.Repeat("\x01a\xff\xff\xff\xff", 65535), "FBA1\x00\x01\xffa\x00\x00\x00\x00",
		"FBA1\x00\x00\x00", "FBA1\x00\x00\x01a\x00\x00\x00\x00", "FBA2\x00\x00", "fba1\x00\x00", "FBA\x00\x00", "\x00\x00", "",
	} {
		failArchive(t, head, summed(head), api.ErrSyntax)
		failArchive(t, head, head+"12345678", api.ErrSyntax)
	}
	failArchive(t, "as large as can be", strings.Repeat("F", 4*maxText), api.ErrSyntax)
	failArchive(t, "too large", strings.Repeat("F", 4*maxText+1), api.ErrLarge)
	failArchive(t, "too large", archiveOf(stored{"a", strings.Repeat("x", 4*maxText)}), api.ErrLarge)
}

// TestListNames has the right sum, or a wrong one ahead of all that is wrong with names.
func TestListNames(t *testing.T) {
	data := encodeByPromise(draw("#"), 1)
	for _, c := range []struct {
		names string
		want  api.Errno
	}{
		{"A", api.ErrName}, {"", api.ErrName}, {strings.Repeat("a", 41), api.ErrName}, {strings.Repeat("a", 255), api.ErrName}, {"b,1", api.ErrName}, {"b,b", api.ErrTwice}, {"b,c,d,c", api.ErrTwice},
		{"b,b,A", api.ErrTwice}, {"b,A,b", api.ErrName}, {"A,A", api.ErrName}, {"b,c,,c,b", api.ErrName}, {"b,c,c,,b", api.ErrTwice},
	} {
		var l []stored
		for name := range strings.SplitSeq(c.names, ",") {
			l = append(l, stored{name, data})
		}
		archive := archiveOf(l...)
		failArchive(t, c.names, archive, c.want)
		failArchive(t, c.names, archive[:len(archive)-1]+string([]byte{archive[len(archive)-1] ^ 1}), api.ErrSum)
		failArchive(t, c.names, archive+"\x00", api.ErrSyntax)
	}
}

// TestListOthers has archives that Pack does not make: their pages cannot be decoded, or are too many.
func TestListOthers(t *testing.T) {
	archive := archiveOf(stored{"a", ""}, stored{"b", "xyz"}, stored{"c", ""}, stored{"d", encodeByPromise(draw("#"), 1)})
	l, e := shrink.List(archive)
	wantList(t, "others", l, e, []api.Entry{{Name: "a", At: 30}, {Name: "b", At: 30, Long: 3}, {Name: "c", At: 33}, {Name: "d", At: 33, Long: 18}})
	n, e := shrink.Check(archive)
	failInt(t, "others", n, e, api.ErrSyntax)
	b, e := shrink.Take(archive, "d")
	wantBits(t, "others", b, e, draw("#"))
	var many []stored
	for _, n := range smallPages(700) {
		many = append(many, stored{n.Name, encodeByPromise(n.Bits, 1)})
	}
	wantArchive(t, archiveOf(many...), smallPages(700))
	next, e := shrink.Add(archiveOf(many...), named("z", "#"), 1)
	failText(t, "too many", next, e, api.ErrLarge)
	next, e = shrink.Add(archiveOf(many...), named("p0", "#"), 1)
	failText(t, "twice and too many", next, e, api.ErrTwice)
	largest := archiveOf(stored{"a", strings.Repeat("x", 2*maxText+1)}, stored{"b", strings.Repeat("x", 2*maxText-14-12-1)})
	wantInt(t, "largest", len(largest), api.OK, 4*maxText)
	b, e = shrink.Take(largest, "a")
	failBits(t, "largest", b, e, api.ErrLarge)
	b, e = shrink.Take(largest, "b")
	failBits(t, "largest", b, e, api.ErrSyntax)
	n, e = shrink.Check(largest)
	failInt(t, "largest", n, e, api.ErrLarge)
}

func TestTake(t *testing.T) {
	for _, archive := range []string{archived(t, nil, 1), archived(t, three(), 5)} {
		for _, name := range []string{"", "A", "a ", "1", "-", "a\x00", strings.Repeat("a", 41)} {
			b, e := shrink.Take(archive, name)
			failBits(t, name, b, e, api.ErrName)
		}
		for _, name := range []string{"b", "aa", "p2", "p2--", "words", "wor", "none"} {
			b, e := shrink.Take(archive, name)
			failBits(t, name, b, e, api.ErrNone)
		}
	}
	good, text := encodeByPromise(draw("#.#"), 1), framed(1, 3, 1, "\xbf")
	archive := archiveOf(stored{"a", good[:9]}, stored{"b", good[:len(good)-1] + "x"}, stored{"c", framed(0, 0, 0, "")}, stored{"d", framed(2, 0, 5000, "")}, stored{"e", framed(3, 4000, 4000, "")}, stored{"f", text}, stored{"g", good})
	for name, want := range map[string]api.Errno{"a": api.ErrSyntax, "b": api.ErrSum, "c": api.ErrKind, "d": api.ErrRange, "e": api.ErrLarge, "f": api.ErrSyntax} {
		b, e := shrink.Take(archive, name)
		failBits(t, name, b, e, want)
	}
	b, e := shrink.Take(archive, "g")
	wantBits(t, "g", b, e, draw("#.#"))
}

func TestCheck(t *testing.T) {
	good := encodeByPromise(draw("#.#"), 1)
	bad := map[api.Errno]string{
		api.ErrSyntax: good[:9], api.ErrSum: good[:len(good)-1] + "x", api.ErrKind: framed(5, 0, 0, ""), api.ErrRange: framed(2, 0, 5000, ""), api.ErrLarge: framed(3, 4000, 4000, ""),
	}
	for want, data := range bad {
		for at := range 5 {
			var l []stored
			for i := range 5 {
				l = append(l, stored{"p" + strconv.Itoa(i), good})
			}
			l[at].data = data
			for _, last := range bad {
				if at < 4 {
					l[4].data = last
				}
				n, e := shrink.Check(archiveOf(l...))
				if n != at || e != want {
					t.Error(n, e, "want", at, want)
				}
			}
		}
	}
}

func TestAdd(t *testing.T) {
	l := smallPages(12)
	for kind := 1; kind <= 5; kind++ {
		archive := archived(t, nil, kind)
		for i, n := range l {
			next, e := shrink.Add(archive, n, kind)
			wantText(t, n.Name, next, e, archiveByPromise(l[:i+1], kind))
			archive = next
		}
		wantArchive(t, archive, l)
	}
	// What is there stays as it is, also of another kind, and if it cannot be decoded.
	broken := []stored{{"a", encodeByPromise(draw("#.#"), 4)}, {"b", "xyz"}, {"c", ""}, {"d", encodeByPromise(draw("."), 3)}}
	next, e := shrink.Add(archiveOf(broken...), named("e", "##"), 2)
	wantText(t, "broken", next, e, archiveOf(append(broken, stored{"e", encodeByPromise(draw("##"), 2)})...))
}

func TestAddOrder(t *testing.T) {
	archive := archived(t, []api.Named{named("a", "#"), named("b", ".")}, 1)
	most := archived(t, append(smallPages(499), named("a", "#")), 1)
	add := func(archive string, n api.Named, kind int, want api.Errno) {
		t.Helper()
		next, e := shrink.Add(archive, n, kind)
		failText(t, n.Name, next, e, want)
	}
	for want, n := range badPages() {
		if want == api.ErrTwice {
			want = api.ErrRange // Pack's for the page alone come first
		}
		for _, kind := range []int{1, 5, 0, 6} {
			add(archive, n, kind, want)
			add(most, n, kind, want)
		}
	}
	for _, kind := range append(wrongNumbers(1, 5), 0, 6, 1<<32+1) {
		add(archive, named("a", "#"), kind, api.ErrKind)
		add(archive, named("c", "#"), kind, api.ErrKind)
		add(most, named("a", "#"), kind, api.ErrKind)
	}
	for kind := 1; kind <= 5; kind++ {
		add(archive, named("a", "#"), kind, api.ErrTwice)
		add(archive, named("b", "#"), kind, api.ErrTwice)
		add(most, named("a", "#"), kind, api.ErrTwice)
		add(most, named("c", "#"), kind, api.ErrLarge)
	}
	for _, archive := range []string{archive, most} {
		next, e := shrink.Add(archive[:len(archive)-1]+"x", api.Named{}, 0)
		failText(t, "sum", next, e, api.ErrSum)
	}
}

// TestChanged changes each byte of archives to each other one: List has an error, or Take of the page that has the byte,
// and all other pages are taken as they were.
func TestChanged(t *testing.T) {
	for kind := 1; kind <= 5; kind++ {
		archive := archived(t, three(), kind)
		whole, _ := shrink.List(archive)
		for i := range len(archive) {
			for v := range 256 {
				if byte(v) != archive[i] {
					tryChanged(t, archive[:i]+string([]byte{byte(v)})+archive[i+1:], i, whole)
				}
			}
		}
	}
}

func tryChanged(t *testing.T, archive string, i int, whole []api.Entry) {
	t.Helper()
	l, e := shrink.List(archive)
	if i < whole[0].At || i >= len(archive)-8 {
		if e != api.ErrSum && e != api.ErrSyntax {
			t.Error("List", i, e)
		}
		return
	}
	wantList(t, "List", l, e, whole)
	for k, n := range three() {
		b, e := shrink.Take(archive, n.Name)
		if i < l[k].At || i >= l[k].At+l[k].Long {
			wantBits(t, n.Name, b, e, n.Bits)
			continue
		}
		if e != api.ErrSum && e != api.ErrSyntax {
			t.Error("Take", i, e)
		}
		at, f := shrink.Check(archive)
		if at != k || f != e {
			t.Error("Check", i, at, f)
		}
	}
}
