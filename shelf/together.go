package shelf

import "sync"

// together lets so many looks go on at a time, each in a goroutine of its own, and waits for them all. What they found stands in their order: who was first is not to be seen.
func together[T any](count int, look func(int) T) []T {
	found := make([]T, count)
	var all sync.WaitGroup
	for i := range count {
		all.Add(1)
		go func() {
			defer all.Done()
			found[i] = look(i)
		}()
	}
	all.Wait()
	return found
}
