package trains

import "flong/api"

// house is a given house at work.
type house struct {
	api.TrainHouse
}

// named returns the error of a call that names something, which may be right or wrong.
func (h house) named(right bool) api.Errno {
	if !h.valid() {
		return api.ErrTrain
	}
	if !right {
		return api.ErrArg
	}
	return api.OK
}

func (h house) valid() bool {
	if !between(len(h.Machines), 1, api.MaxTrainMachines) || len(h.Bundles) > api.MaxTrainBundles || len(h.Trains) > api.MaxTrains {
		return false
	}
	for _, m := range h.Machines {
		if !validMachine(m) {
			return false
		}
	}
	for _, minute := range h.Trains {
		if !between(minute, 0, api.MaxTrainMinute) {
			return false
		}
	}
	for _, b := range h.Bundles {
		if !h.validBundle(b) {
			return false
		}
	}
	return between(h.Change, 0, api.MaxTrainChange)
}

func validMachine(m api.TrainMachine) bool {
	return between(m.Ready, 0, api.MaxTrainMinute) && between(m.Pace, 1, api.MaxTrainPace) && between(m.Stops, 0, 1)
}

func (h house) validBundle(b api.TrainBundle) bool {
	return h.hasTrain(b.Train) && between(b.Hundreds, 1, api.MaxTrainHundreds) && between(b.Edition, 0, api.MaxTrainEditions-1)
}

func between(n, least, most int) bool {
	return least <= n && n <= most
}

func (h house) hasMachine(machine int) bool { return between(machine, 0, len(h.Machines)-1) }
func (h house) hasBundle(bundle int) bool   { return between(bundle, 0, len(h.Bundles)-1) }
func (h house) hasTrain(train int) bool     { return between(train, 0, len(h.Trains)-1) }

func (h house) isPlan(plan [][]int) bool {
	if len(plan) != len(h.Machines) {
		return false
	}
	var met [api.MaxTrainBundles]bool
	for _, bundles := range plan {
		for _, bundle := range bundles {
			if !h.hasBundle(bundle) || met[bundle] {
				return false
			}
			met[bundle] = true
		}
	}
	return true
}
