package par

import (
	"sync"

	"pedigree/api"
	"pedigree/join"
)

// job is joins of one rule that one worker tries.
type job struct {
	number   int // in its round
	plan     api.Plan
	from, to []int // what the literals read
}

// task is what a worker is told: the facts that are new to it, and its jobs.
type task struct {
	fresh []api.Fact
	jobs  []job
}

// result is what came of a job.
type result struct {
	number int
	joins  int
	facts  []api.Fact // what the joins give, each once, without what the worker knows already
}

// crew is the workers of a call.
type crew struct {
	tasks []chan<- task // each worker's own
	told  chan result   // the one on which all tell
	knows []int         // how many of the facts that were found each has been told
	all   sync.WaitGroup
}

func hire(workers int) *crew {
	c := &crew{told: make(chan result), knows: make([]int, workers)}
	for range workers {
		tasks := make(chan task)
		c.tasks = append(c.tasks, tasks)
		c.all.Add(1)
		go func() {
			defer c.all.Done()
			labour(tasks, c.told)
		}()
	}
	return c
}

// dismiss lets the workers end, and waits till all have.
func (c *crew) dismiss() {
	for _, tasks := range c.tasks {
		close(tasks)
	}
	c.all.Wait()
}

// try answers what comes of each job over the facts that were found, in the jobs' order.
func (c *crew) try(jobs []job, found []api.Fact) []result {
	for i, own := range deal(jobs, len(c.tasks)) {
		// One that has nothing to try need not know yet what is new.
		if len(own) > 0 {
			c.tasks[i] <- task{found[c.knows[i]:len(found):len(found)], own}
			c.knows[i] = len(found)
		}
	}
	// Who tells first must make no difference: it is the job's number that says which place its result has.
	out := make([]result, len(jobs))
	for range jobs {
		x := <-c.told
		out[x.number] = x
	}
	return out
}

// deal answers each worker's jobs.
func deal(jobs []job, workers int) [][]job {
	out := make([][]job, workers)
	for i, j := range jobs {
		out[i%workers] = append(out[i%workers], j)
	}
	return out
}

// labour is what a worker does till its channel is closed. Its world is its own: a run makes indexes there.
func labour(tasks <-chan task, told chan<- result) {
	world, _ := join.NewWorld()
	for t := range tasks {
		for _, f := range t.fresh {
			world.Add(f)
		}
		for _, j := range t.jobs {
			told <- j.try(world)
		}
	}
}

// try tells each fact once: where very many joins give the same, those who tell are many, and who hears is one.
func (j job) try(world *join.World) result {
	given, _ := world.Run(j.plan, j.from, j.to)
	out := result{number: j.number, joins: len(given)}
	told, _ := join.NewWorld()
	for _, f := range given {
		if world.Has(f) {
			continue
		}
		if first, _ := told.Add(f); first {
			out.facts = append(out.facts, f)
		}
	}
	return out
}
