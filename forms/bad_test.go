package forms_test

import (
	"fmt"
	"testing"

	"flatbed/api"
	"flatbed/forms"
)

// TestBadForms has a form with each flaw, and other wrong arguments besides it: the error of the form comes first.
func TestBadForms(t *testing.T) {
	for _, flaw := range flawsInOrder() {
		f := order()
		flaw.spoil(&f)
		for _, b := range []api.Bits{plain(130, 60, true), {}, {W: 1025, H: 1024}, {W: 130, H: 60}, plain(1, 1, true)} {
			failAll(t, flaw.what, f, b, tiny(), flaw.want)
			failAll(t, flaw.what, f, b, api.Font{}, flaw.want)
			n, sum, e := forms.Best([]api.Form{order(), f, {}}, b)
			if n != 0 || sum != 0 || e != flaw.want {
				t.Error("Best", flaw.what, n, sum, e)
			}
		}
	}
}

// TestBadPages has pages of all wrong sizes.
func TestBadPages(t *testing.T) {
	for size, want := range map[[2]int]api.Errno{
		{0, 0}: api.ErrRange, {-1, -3}: api.ErrRange, {130, 0}: api.ErrRange, {0, 60}: api.ErrRange, {4001, 1}: api.ErrRange, {1, 4001}: api.ErrRange,
		{leastInt, leastInt}: api.ErrRange, {mostInt, mostInt}: api.ErrRange, {1 << 32, 3}: api.ErrRange, {130, 1<<32 + 60}: api.ErrRange,
		{1025, 1024}: api.ErrLarge, {4000, 263}: api.ErrLarge, {4000, 4000}: api.ErrLarge,
		{130, 60}: api.ErrForm, {2, 2}: api.ErrForm, {1, 2}: api.ErrForm, {1024, 1024}: api.ErrForm,
	} {
		for _, b := range []api.Bits{{W: size[0], H: size[1], P: make([]bool, 3)}, {W: size[0], H: size[1]}, {W: size[0], H: size[1], P: make([]bool, 7801)}} {
			failAll(t, fmt.Sprint(size), order(), b, tiny(), want)
			failAll(t, fmt.Sprint(size), order(), b, letters(64, 1), want)
			n, sum, e := forms.Best([]api.Form{order()}, b)
			if n != 0 || sum != 0 || e != want {
				t.Error("Best", size, n, sum, e)
			}
		}
	}
}
