package prune

import "sync"

// deal begins a goroutine that hands on items: the one that is told as the first, and then each so many behind the last one.
func deal[A any](all *sync.WaitGroup, items []A, first, step int) <-chan A {
	to := make(chan A)
	all.Go(func() {
		defer close(to)
		for i := first; i < len(items); i += step {
			to <- items[i]
		}
	})
	return to
}

// work begins a goroutine that does something to each item that comes, and hands on what comes of it.
func work[A, B any](all *sync.WaitGroup, from <-chan A, do func(A) B) <-chan B {
	to := make(chan B)
	all.Go(func() {
		defer close(to)
		for x := range from {
			to <- do(x)
		}
	})
	return to
}
