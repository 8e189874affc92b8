package side

import (
	"errors"
	"fmt"
	"sync"
	"sync/atomic"
	"testing"
	"time"
)

// Any task, any answer: each is done once, and stands at its place.
func TestEach(t *testing.T) {
	type pair struct{ a, b string }
	odd := errors.New("odd")
	for tasks := range 40 {
		for workers := 1; workers <= 16; workers++ {
			list := make([]pair, tasks)
			for i := range list {
				list[i].b = fmt.Sprint(i)
			}
			done := make([]atomic.Int32, tasks)
			got := each(list, workers, func(at int, p pair) (func() string, error) {
				done[at].Add(1)
				if at%2 == 1 {
					return nil, odd
				}
				return func() string { return p.a + p.b }, nil
			})
			if len(got) != tasks {
				t.Fatalf("%d of %d", len(got), tasks)
			}
			for i, m := range got {
				if done[i].Load() != 1 || m.at != i || (m.err == odd) != (i%2 == 1) || m.err == nil && m.answer() != fmt.Sprint(i) {
					t.Fatalf("%d workers: task %d of %d was done %d times: %+v", workers, i, tasks, done[i].Load(), m)
				}
			}
		}
	}
}

// So many work at once, if there is so much to do: each of the first ones waits until all of them have begun.
func TestAtOnce(t *testing.T) {
	for workers := 1; workers <= 16; workers++ {
		var begun sync.WaitGroup
		begun.Add(workers)
		var now, most atomic.Int32
		each(make([]int, 3*workers), workers, func(at, _ int) (int, error) {
			n := now.Add(1)
			for m := most.Load(); n > m && !most.CompareAndSwap(m, n); m = most.Load() {
			}
			if at < workers {
				begun.Done()
				begun.Wait()
			}
			time.Sleep(time.Millisecond) // in which one more worker than there may be would begin
			now.Add(-1)
			return 0, nil
		})
		if int(most.Load()) != workers {
			t.Errorf("%d workers: %d at once", workers, most.Load())
		}
	}
}

// One who is slow holds nobody up: all others are done ahead of the first.
func TestSlowFirst(t *testing.T) {
	var others sync.WaitGroup
	others.Add(99)
	got := each(make([]string, 100), 2, func(at int, _ string) (int, error) {
		if at == 0 {
			others.Wait()
		} else {
			others.Done()
		}
		return at * at, nil
	})
	for at, m := range got {
		if m.answer != at*at {
			t.Errorf("task %d: %d", at, m.answer)
		}
	}
}
