package shrink

import (
	"slices"
	"strings"

	"flatbed/api"
	"flatbed/page"
)

const (
	mark       = "FBA1"
	countBytes = 2
	nameBytes  = 1
	maxArchive = 4 * api.MaxText
)

// Pack makes an archive of pages with names.
func Pack(l []api.Named, kind int) (string, api.Errno) {
	if len(l) > api.MaxPages {
		return "", api.ErrLarge
	}
	if e := checkPages(l, kind); e != api.OK {
		return "", e
	}
	var made binder
	for _, n := range l {
		if e := made.put(n, kind); e != api.OK {
			return "", e
		}
	}
	return made.archive(), api.OK
}

func checkPages(l []api.Named, kind int) api.Errno {
	check := page.NameChecker()
	for _, n := range l {
		if e := check(n.Name); e != api.OK {
			return e
		}
		if e := page.CheckBits(n.Bits); e != api.OK {
			return e
		}
	}
	if page.Outside(kind, api.ShrinkPlain, api.ShrinkBest) {
		return api.ErrKind
	}
	return api.OK
}

// A binder gathers what an archive will have: how many pages, what its head tells of them, and the pages.
type binder struct {
	count        int
	heads, pages strings.Builder
}

// put encodes a page, and finds out whether it is too much, so that of many pages no more are encoded than have room.
func (b *binder) put(n api.Named, kind int) api.Errno {
	data, e := encodeAs(n.Bits, kind)
	if e != api.OK {
		return e
	}
	b.add(n.Name, data)
	if len(mark)+countBytes+b.heads.Len()+b.pages.Len()+sumBytes > maxArchive {
		return api.ErrLarge
	}
	return api.OK
}

func encodeAs(b api.Bits, kind int) (string, api.Errno) {
	if kind == api.ShrinkBest {
		data, _, e := Best(b)
		return data, e
	}
	return Encode(b, kind)
}

func (b *binder) add(name, data string) {
	b.count++
	b.heads.WriteString(bytesOf(uint64(len(name)), nameBytes) + name + bytesOf(uint64(len(data)), longBytes))
	b.pages.WriteString(data)
}

func (b *binder) archive() string {
	head := mark + bytesOf(uint64(b.count), countBytes) + b.heads.String()
	return head + b.pages.String() + SumOf(head)
}

// List returns what an archive has.
func List(archive string) ([]api.Entry, api.Errno) {
	if len(archive) > maxArchive {
		return nil, api.ErrLarge
	}
	l, head, ok := readHead(archive)
	if !ok {
		return nil, api.ErrSyntax
	}
	if SumOf(head) != archive[len(archive)-sumBytes:] {
		return nil, api.ErrSum
	}
	check := page.NameChecker()
	for _, entry := range l {
		if e := check(entry.Name); e != api.OK {
			return nil, e
		}
	}
	return l, api.OK
}

// readHead returns the head of an archive, and what it tells of the pages; ok is false if bytes are missing or left.
func readHead(archive string) (l []api.Entry, head string, ok bool) {
	rest, ok := strings.CutPrefix(archive, mark)
	cut := func(n int) string {
		ok = ok && n <= len(rest)
		if !ok {
			return ""
		}
		part := rest[:n]
		rest = rest[n:]
		return part
	}
	count := numberOf(cut(countBytes))
	for ok && len(l) < count {
		name := cut(numberOf(cut(nameBytes)))
		l = append(l, api.Entry{Name: name, Long: numberOf(cut(longBytes))})
	}
	at := len(archive) - len(rest)
	head = archive[:at]
	for i := range l {
		l[i].At = at
		at += l[i].Long
	}
	return l, head, ok && at+sumBytes == len(archive)
}

// Take returns the page of an archive with a name.
func Take(archive, name string) (api.Bits, api.Errno) {
	l, e := List(archive)
	if e != api.OK {
		return api.Bits{}, e
	}
	if !page.IsName(name) {
		return api.Bits{}, api.ErrName
	}
	i := indexOf(l, name)
	if i < 0 {
		return api.Bits{}, api.ErrNone
	}
	return Decode(dataOf(archive, l[i]))
}

func indexOf(l []api.Entry, name string) int {
	return slices.IndexFunc(l, func(entry api.Entry) bool { return entry.Name == name })
}

func dataOf(archive string, entry api.Entry) string { return archive[entry.At:][:entry.Long] }

// Add puts a page behind those of an archive, which stay as they are, also if they cannot be decoded.
func Add(archive string, n api.Named, kind int) (string, api.Errno) {
	l, e := List(archive)
	if e != api.OK {
		return "", e
	}
	if e := checkPages([]api.Named{n}, kind); e != api.OK {
		return "", e
	}
	if indexOf(l, n.Name) >= 0 {
		return "", api.ErrTwice
	}
	if len(l) >= api.MaxPages {
		return "", api.ErrLarge
	}
	var made binder
	for _, entry := range l {
		made.add(entry.Name, dataOf(archive, entry))
	}
	if e := made.put(n, kind); e != api.OK {
		return "", e
	}
	return made.archive(), api.OK
}

// Check decodes all pages, and returns how many there are, or the number of the first one with an error.
func Check(archive string) (int, api.Errno) {
	l, e := List(archive)
	if e != api.OK {
		return 0, e
	}
	for i, entry := range l {
		if _, e := Decode(dataOf(archive, entry)); e != api.OK {
			return i, e
		}
	}
	return len(l), api.OK
}
