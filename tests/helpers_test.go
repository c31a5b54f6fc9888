package tests

import (
	"fmt"
	"iter"
	"slices"
	"sync"
	"testing"

	"loop.example/g01388/impl"
)

const (
	leastInt    = -1 << 63
	greatestInt = 1<<63 - 1
)

// wantList checks a list and the code beside it.
func wantList[T comparable](t *testing.T, what string, got []T, code int64, want []T) {
	t.Helper()
	if code != impl.ErrNone || !slices.Equal(got, want) {
		t.Errorf("%s = %v, code %d; want %v", what, got, code, want)
	}
}

// wantNoList checks that a list is empty beside the code of an error.
func wantNoList[T any](t *testing.T, what string, got []T, code, want int64) {
	t.Helper()
	if code != want || len(got) != 0 {
		t.Errorf("%s = %v, code %d; want nothing and code %d", what, got, code, want)
	}
}

// wantValue checks a single value and the code beside it; beside an error it is the zero value.
func wantValue[T comparable](t *testing.T, what string, got T, code int64, want T, wantCode int64) {
	t.Helper()
	if code != wantCode || got != want {
		t.Errorf("%s = %v, code %d; want %v, code %d", what, got, code, want, wantCode)
	}
}

// wantApart checks that a change of one list of a result, or an append to it, leaves the other lists
// as they are. It wants at least so many lists.
func wantApart(t *testing.T, what string, least int, result func() [][]int64) {
	t.Helper()
	want := fmt.Sprint(result())
	if len(result()) < least {
		t.Errorf("%s = %s; want at least %d lists", what, want, least)
	}
	for k := range result() {
		lists := result()
		kept := slices.Clone(lists[k])
		spoil(append(lists[k], 1, 2, 3))
		spoil(lists[k])
		lists[k] = kept
		if got := fmt.Sprint(lists); got != want {
			t.Errorf("%s: behind a change of the list %d, %s has become %s", what, k, want, got)
		}
	}
}

// wantNoState checks that calls have the same results, whatever calls came before them, and whatever
// is called, and changed in results, beside them.
func wantNoState(t *testing.T, results func() string, callOther func()) {
	t.Helper()
	want := results()
	callOther()
	var callers sync.WaitGroup
	for range 4 {
		callers.Go(func() {
			if got := results(); got != want {
				t.Errorf("results have changed to %s", got)
			}
		})
	}
	callers.Wait()
}

// upTo returns the numbers from first to last.
func upTo(first, last int64) []int64 {
	list := []int64{}
	for x := first; x <= last; x++ {
		list = append(list, x)
	}
	return list
}

// repeat returns a list of n numbers x.
func repeat(x int64, n int) []int64 {
	return slices.Repeat([]int64{x}, n)
}

// changedTexts yields the texts that come from one by changing, leaving out or adding a byte.
func changedTexts(text string) iter.Seq[string] {
	return func(yield func(changed string) bool) {
		for k := range len(text) + 1 {
			before, behind := text[:k], text[k:]
			if behind != "" && !yield(before+behind[1:]) {
				return
			}
			for sign := range 256 {
				if with := before + string([]byte{byte(sign)}); !yield(with+behind) || behind != "" && !yield(with+behind[1:]) {
					return
				}
			}
		}
	}
}

// dice gives numbers that look like random ones and are the same in each run.
type dice uint64

func (d *dice) below(n int64) int64 {
	*d = *d*6364136223846793005 + 1442695040888963407
	return int64(uint64(*d)>>33) % n
}
