package audit

import "sync"

// told is what a worker has found at a job, which is known by its number.
type told[F any] struct {
	job   int
	found F
}

// deal hands jobs out to workers; the answer is what was found at each job, in the order of jobs, whoever was faster. Each worker is made by hire, so that it may keep from job to job what no other one sees.
func deal[J, F any](jobs []J, workers int, hire func() func(job J) F) []F {
	open := make(chan int)
	finds := make(chan told[F])
	through := make(chan struct{})
	var group sync.WaitGroup
	group.Add(1 + workers)
	go func() {
		defer group.Done()
		for i := range jobs {
			open <- i
		}
		close(open)
	}()
	for range workers {
		go func() {
			defer group.Done()
			work := hire()
			for i := range open {
				finds <- told[F]{job: i, found: work(jobs[i])}
			}
			through <- struct{}{}
		}()
	}
	found := make([]F, len(jobs))
	for left := workers; left > 0; {
		select {
		case f := <-finds:
			found[f.job] = f.found
		case <-through: // whatever this worker found was heard ahead of it
			left--
		}
	}
	group.Wait()
	return found
}
