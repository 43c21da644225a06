/- Contract of apportionref05's GetText. -/
import Derived.Test.YtfapldajodobhaaOctL
namespace Go.Proofs.Ytfapldajodobhaa
set_option linter.unusedVariables false
set_option linter.unusedSimpArgs false
open Go.RowKit

theorem conv_zero (w : World) (b off cap : Nat) : (convert 22 9 (.slice (some ⟨b, off, none⟩) 0 cap)).run Try.prog w = .ok (.string ⟨#[]⟩) w := by
  have := run_convert_bytes_back (P := Try.prog) w 22 9 5 ⟨b, off, none⟩ cap [] Try.underlying22 Try.underlying5 Try.underlying9 (fun j hj => by simp at hj)
  exact this

theorem conv_any {w : World} {len : Nat} {L : List UInt8} {b off : Nat} (h : BReads w (some ⟨b, off, none⟩) len L) (i n cap : Nat) (hi : i + n ≤ len) :
    (convert 22 9 (.slice (some ⟨b, off + i, none⟩) n cap)).run Try.prog w = .ok (.string ⟨((L.drop i).take n).toArray⟩) w := by
  by_cases hn : n = 0
  · subst hn
    rw [List.take_zero]
    exact conv_zero w b (off + i) cap
  · exact conv_part h i n cap hi (by omega) b off rfl

theorem ret_tx5 {s s' : ByteArray} {b c d b' c' d' : Int} (h1 : s = s') (h2 : b = b') (h3 : c = c') (h4 : d = d') : Ending.returned (.tuple #[.string s, .int .i64 b, .agg #[.int .i64 c, .int .i64 d]]) = .returned (.tuple #[.string s', .int .i64 b', .agg #[.int .i64 c', .int .i64 d']]) := by rw [h1, h2, h3, h4]

end Go.Proofs.Ytfapldajodobhaa
