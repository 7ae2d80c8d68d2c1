package overseer

import (
	"flong/api"
	"flong/flongs"
	"flong/trains"
)

// question asks a town.
type question func(t api.OverTown) answer

// questionOf returns the question that some words are, of those that can be asked of any town.
func questionOf(words []string) (question, bool) {
	f, n, ok := formOf(words)
	if !ok {
		return nil, false
	}
	ask := houseQuestion(f, n)
	if ask == nil {
		ask = shopQuestion(f, n)
	}
	return ask, ask != nil
}

// houseQuestion returns the question of a form with these numbers that is asked of the house; nil if there is no such form.
func houseQuestion(f form, n []int) question {
	switch f {
	case form{"sure", 0}:
		return func(t api.OverTown) answer { return truth(trains.Sure(t.House)) }
	case form{"fewest", 0}:
		return func(t api.OverTown) answer { return one(trains.Fewest(t.House)) }
	case form{"told", 0}:
		return func(t api.OverTown) answer { return all(trains.Told(t.House)) }
	case form{"wait", 1}:
		return func(t api.OverTown) answer { return one(trains.Wait(t.House, n[0])) }
	case form{"spare", 0}:
		return func(t api.OverTown) answer { return one(trains.Spare(t.House)) }
	}
	return nil
}

// shopQuestion is the same for the shop.
func shopQuestion(f form, n []int) question {
	switch f {
	case form{"new", 0}:
		return func(t api.OverTown) answer { return one(flongs.New(t.Shop)) }
	case form{"worlds", 0}:
		return func(t api.OverTown) answer { return all(flongs.Worlds(t.Shop)) }
	case form{"left", 1}:
		return func(t api.OverTown) answer { return ends(flongs.Left(t.Shop, n[0])) }
	case form{"test", 0}:
		return func(t api.OverTown) answer { return one(flongs.Test(t.Shop)) }
	}
	return nil
}
