/- Package words: its contracts in one (n_wdShort, n_wdLong, n_wdAll). -/
import Derived.Test.YtngjkmjejijfiaaDoorWdY
