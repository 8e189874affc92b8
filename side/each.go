package side

import "sync"

// made: what a worker made of the task with this number.
type made[A any] struct {
	at     int
	answer A
	err    error
}

// each task is done once, by one of the workers; what is made of them stands in the tasks' order, so that nobody sees who was faster.
func each[T, A any](tasks []T, workers int, do func(at int, task T) (A, error)) []made[A] {
	numbers, done := make(chan int), make(chan made[A])
	var group sync.WaitGroup
	for range workers {
		group.Add(1)
		go func() {
			defer group.Done()
			for at := range numbers {
				answer, err := do(at, tasks[at])
				done <- made[A]{at, answer, err}
			}
		}()
	}
	list := handOut(len(tasks), numbers, done)
	close(numbers)
	group.Wait()
	return list
}

// handOut the numbers of so many tasks, and gather what is made of them. Both in one select: who only handed out would wait for workers that wait for him.
func handOut[A any](tasks int, numbers chan<- int, done <-chan made[A]) []made[A] {
	list := make([]made[A], tasks)
	next := 0
	for gathered := 0; gathered < tasks; {
		if next == tasks {
			numbers = nil // nobody takes one from there: what is left is to gather
		}
		select {
		case numbers <- next:
			next++
		case m := <-done:
			list[m.at] = m
			gathered++
		}
	}
	return list
}
