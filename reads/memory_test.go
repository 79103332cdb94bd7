package reads_test

import (
	"slices"
	"testing"

	"hustings/reads"
)

// P1401: a list of servers, and the room behind it, is left as it is, and is not kept.
func TestServersMemory(t *testing.T) {
	b := made(t, 9)
	ask(t, b, 1, 1, 1)
	ask(t, b, 2, 2, 2)
	hear(t, b, 3, 1)
	behind := []int{9, 3, 3, 7, 6, 5}
	wantReady(t, b, behind[:3], reads.Ready{ID: 1, Index: 1})
	if !slices.Equal(behind, []int{9, 3, 3, 7, 6, 5}) {
		t.Error(behind)
	}
	for i := range behind {
		behind[i] = 9
	}
	wantReady(t, b, []int{9, 3})
	wantReady(t, b, []int{9}, reads.Ready{ID: 2, Index: 2})
}

// spoil: writes into a list and into the room behind it.
func spoil[T any](l []T, with T) {
	for i := range l[:cap(l)] {
		l[:cap(l)][i] = with
	}
}

// P1401: what is answered shares nothing with the Book, nor with another answer.
func TestAnswersMemory(t *testing.T) {
	b := made(t, 0)
	for id := range 9 {
		ask(t, b, id, 10+id, id)
	}
	one, other := b.Waiting(), b.Waiting()
	spoil(one, 77)
	if !slices.Equal(other, []int{0, 1, 2, 3, 4, 5, 6, 7, 8}) {
		t.Error(other)
	}
	wantWaiting(t, b, 0, 1, 2, 3, 4, 5, 6, 7, 8)
	hear(t, b, 1, 2)
	first := b.Ready([]int{0, 1})
	hear(t, b, 1, 5)
	second := b.Ready([]int{0, 1})
	spoil(first, reads.Ready{ID: 77, Index: 77})
	if !slices.Equal(second, []reads.Ready{{ID: 3, Index: 13}, {ID: 4, Index: 14}, {ID: 5, Index: 15}}) {
		t.Error(second)
	}
	spoil(second, reads.Ready{ID: 77, Index: 77})
	wantWaiting(t, b, 6, 7, 8)
	ids := b.Clear()
	ask(t, b, 4, 4, 0)
	if !slices.Equal(ids, []int{6, 7, 8}) {
		t.Error(ids)
	}
	spoil(ids, 77)
	wantWaiting(t, b, 4)
	wantReady(t, b, []int{0}, reads.Ready{ID: 4, Index: 4})
}

// P1401: Books share nothing.
func TestApart(t *testing.T) {
	x, y := made(t, 1), made(t, 1)
	ask(t, x, 1, 1, 1)
	ask(t, y, 1, 2, 1)
	ask(t, y, 2, 3, 1)
	hear(t, x, 2, 1)
	wantReady(t, y, []int{1, 2})
	wantReady(t, x, []int{1, 2}, reads.Ready{ID: 1, Index: 1})
	x.Clear()
	wantWaiting(t, y, 1, 2)
	hear(t, y, 2, 4)
	wantReady(t, y, []int{1, 2}, reads.Ready{ID: 1, Index: 2}, reads.Ready{ID: 2, Index: 3})
}
