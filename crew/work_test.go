package crew

import (
	"runtime"
	"sync"
	"sync/atomic"
	"testing"
)

// TestW1AtTheSameTime has jobs that only end when each worker has one: fewer workers would never end.
func TestW1AtTheSameTime(t *testing.T) {
	for workers := 1; workers <= 8; workers++ {
		var begun sync.WaitGroup
		begun.Add(workers)
		work(workers, workers, func(int) {
			begun.Done()
			begun.Wait()
		})
	}
}

// TestW1NoMoreWorkersThanAsked counts how many jobs are done at once.
func TestW1NoMoreWorkersThanAsked(t *testing.T) {
	for workers := 1; workers <= 8; workers++ {
		var now, most atomic.Int64
		work(30, workers, func(int) {
			at := now.Add(1)
			for before := most.Load(); at > before && !most.CompareAndSwap(before, at); before = most.Load() {
			}
			runtime.Gosched()
			now.Add(-1)
		})
		if most.Load() > int64(workers) {
			t.Errorf("%d jobs at once for %d workers", most.Load(), workers)
		}
	}
}

func TestW1EachJobOnce(t *testing.T) {
	for workers := 1; workers <= 8; workers++ {
		for jobs := range 31 {
			times := make([]int, jobs)
			work(jobs, workers, func(i int) { times[i]++ })
			for i, n := range times {
				if n != 1 {
					t.Errorf("%d workers did job %d of %d %d times", workers, i, jobs, n)
				}
			}
		}
	}
}

// TestW3WorkersHaveEnded has jobs that take their time: all of them are done when the call returns.
func TestW3WorkersHaveEnded(t *testing.T) {
	for workers := 1; workers <= 8; workers++ {
		for range 50 {
			var done atomic.Int64
			work(30, workers, func(i int) {
				for range i * 20 {
					runtime.Gosched()
				}
				done.Add(1)
			})
			if n := done.Load(); n != 30 {
				t.Errorf("%d workers have done %d of 30 jobs when the call returns", workers, n)
			}
		}
	}
}

func TestW2CounterLosesNothing(t *testing.T) {
	const adders, times = 8, 20000
	var c counter
	var all sync.WaitGroup
	for range adders {
		all.Go(func() {
			for range times {
				c.add(3)
			}
		})
	}
	all.Wait()
	if c.units != 3*adders*times {
		t.Errorf("counted %d, want %d", c.units, 3*adders*times)
	}
}
