package desk

import (
	"sync"

	"verdict/api"
)

// shift is jobs that several workers do. Each answer has the place of its job, which whoever has taken that job alone writes to: so the order is theirs, however the workers run.
type shift struct {
	jobs    []api.Job
	answers []api.Answer
	next    chan int
	over    chan struct{}
}

func newShift(l []api.Job) *shift {
	return &shift{
		jobs:    l,
		answers: make([]api.Answer, len(l)),
		next:    make(chan int),
		over:    make(chan struct{}),
	}
}

// done has as many workers do all jobs, and tells the answers once all workers are gone.
func (s *shift) done(workers int) []api.Answer {
	var wait sync.WaitGroup
	wait.Add(workers)
	for range workers {
		go func() {
			defer wait.Done()
			s.work()
		}()
	}
	for i := range s.jobs {
		s.next <- i
	}
	// The channel has no room, so each job has been taken by now: nobody goes while there is one left.
	close(s.over)
	wait.Wait()
	return s.answers
}

// work does the next job, as long as there is another one.
func (s *shift) work() {
	for {
		select {
		case i := <-s.next:
			s.answers[i] = One(s.jobs[i])
		case <-s.over:
			return
		}
	}
}
