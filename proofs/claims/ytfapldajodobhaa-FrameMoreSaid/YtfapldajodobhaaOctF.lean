/- Contract of apportionkit's KeptBytes. -/
import Derived.Test.YtfapldajodobhaaOctE
import Derived.Test.YtfapldajodobhaaQGuard
import Derived.Deep.RegionWith
namespace Go.Proofs.Ytfapldajodobhaa
set_option linter.unusedVariables false
set_option linter.unusedSimpArgs false
open Go.RowKit

def lentL (L : List UInt8) : List UInt8 := (List.range (L.length + 3)).map fun i => UInt8.ofNat (lentF L i)
theorem lentF_lt (L : List UInt8) (i : Nat) : lentF L i < 256 := by
  unfold lentF; split
  · exact byte_lt _ _
  · omega
theorem reads_lent {w : World} {g n : Nat} {L : List UInt8} (hn : n = L.length + 3) (h : w.rowAt g = some (urow (lentF L) n)) : BReads w (some ⟨g, 0, none⟩) n (lentL L) := by
  subst hn
  refine ⟨by simp [lentL], .inr ⟨g, 0, rfl, fun i hi => ?_⟩⟩
  rw [Nat.zero_add, ucell_of_row h, urow_get _ _ _ hi]
  congr 2
  unfold byteAt lentL
  have := lentF_lt L i
  simp [List.getD_eq_getElem?_getD, hi, UInt8.toNat_ofNat']
  omega

set_option maxHeartbeats 2000000 in
theorem k_KeptBytes (w : World) (g : Nat) (a : Option Addr) (len cap : Nat) (L : List UInt8) (hg : w.rowAt g = some (urow (lentF L) (len + 3))) (h : BIn w a len L cap) (hs : len ≤ 1048576) :
    Calls Try.prog 18 #[.slice (some ⟨g, 0, none⟩) len (len + 3), .slice a len cap] w fun e w' => e = .returned (.bool true) ∧ Junk w w' := by
  have hL := h.reads.1
  subst hL
  have HLe := Lib.hid (fun w' (hb : BIn w' a L.length L cap) => k_LentBytes w' a L.length cap L hb hs)
  have HB := Lib.hid h
  have HG := Lib.hid hg
  have hgs : g < w.heap.size := by
    obtain ⟨t, hb⟩ := rowAt_some hg
    by_cases hx : g < w.heap.size
    · exact hx
    · simp [Array.getElem?_eq_none (Nat.le_of_not_lt hx)] at hb
  have HS := Lib.hid (fun w' a b h1 h2 => k_SameBytes w' a b (L.length + 3) (L.length + 3) (L.length + 3) (L.length + 3) (lentL L) (lentL L) h1 h2)
  have he : ((L.length : Int) == (L.length : Int)) = true := by simp
  have e3 : IntKind.i64.wrap ((L.length : Int) + 3) = (L.length : Int) + 3 := by simp [IntKind.wrap, IntKind.signed, IntKind.bits]; omega
  clear h hg
  go_enter Try.func18, Try.ntmps18
  go_wp2_with fail
  refine region_storeg (fun b w' => if b then ∃ J d, w' = (w.alloc (.cells (urow (lentF L) (L.length + 3)) 5)).plus J d else ∃ d, w' = w.drewN d) 11 (by decide) (by kernel_rfl) (by kernel_rfl) ⟨1, rfl⟩ ?_
  have h3 : ((L.length : Int) + 3).toNat = L.length + 3 := by omega
  iterate 9
    (refine g_ex (by rfl) rfl ?_; apply Exists.intro; refine ⟨fun W => ?_, ?_⟩; (go_simp; with_reducible rfl); go_simp)
  (refine g_ex (by rfl) rfl ?_; apply Exists.intro; refine ⟨fun W => ?_, ?_⟩; (go_simp; rw [if_pos (by omega)]); go_simp; try simp only [h3])
  (refine g_ex (by rfl) rfl ?_; apply Exists.intro; refine ⟨fun W => ?_, ?_⟩; (go_simp; with_reducible rfl); go_simp)
  refine g_write (by rfl) rfl (.slice (some ⟨w.heap.size, 0, none⟩) L.length (L.length + 3)) (fun W hW => ?_) ?_
  · obtain ⟨d, rfl⟩ : ∃ d, W = w.drewN d := hW
    show stepUpong _ (fun w' => ∃ J d, w' = (w.alloc (.cells (urow (lentF L) (L.length + 3)) 5)).plus J d) _ _
    unfold stepUpong
    go_simp
    refine (HLe.out _ (HB.out.below (by (repeat' (first | (with_reducible exact Below.refl _ _) | (with_reducible assumption) | (with_reducible refine Below.alloc ?_ ?_ _) | (with_reducible refine Below.drew ?_) | (with_reducible refine below_drewN ?_ _) | (with_reducible refine below_plus ?_ ?_ _ _) | (with_reducible refine Below.setCell ?_ ?_ _) | (with_reducible refine Below.setRow ?_ ?_ _) | go_size))))).mono ?_
    rintro e w' ⟨rfl, d', rfl⟩
    exact ⟨rfl, junk_of_below (show Below _ (w.alloc (.cells (urow (lentF L) (L.length + 3)) 5)) (((w.alloc (.cells (urow (lentF L) (L.length + 3)) 5)).drewN d).drewN d') from below_drewN (below_drewN (Below.refl _ _) _) _)⟩
  go_simp
  iterate 3
    (refine g_ex (by rfl) rfl ?_; apply Exists.intro; refine ⟨fun W => ?_, ?_⟩; (go_simp; with_reducible rfl); go_simp)
  (refine g_ex (by rfl) rfl ?_; apply Exists.intro; refine ⟨fun W => ?_, ?_⟩; (go_simp; rw [if_pos (by omega)]); go_simp; try simp only [h3])
  refine g_behind (by rfl) rfl (by decide) (.bool true) (fun W hW => ?_) ?_
  · obtain ⟨J, d, rfl⟩ : ∃ J d, W = (w.alloc (.cells (urow (lentF L) (L.length + 3)) 5)).plus J d := hW
    show stepUpong _ (fun w' => ∃ J d, w' = (w.alloc (.cells (urow (lentF L) (L.length + 3)) 5)).plus J d) _ _
    unfold stepUpong
    go_simp
    refine (HS.out _ _ _ (reads_lent rfl ?_) (reads_lent rfl ?_)).mono ?_
    · rw [rowAt_plus _ _ _ _ (by simp; omega), rowAt_alloc_past _ _ _ hgs]; exact HG.out
    · rw [rowAt_plus _ _ _ _ (by simp), rowAt_alloc_at _ _ _ _ rfl]
    rintro e w' ⟨rfl, J2, d2, rfl⟩
    exact ⟨by simp, _, _, by rw [plus_plus]⟩
  go_simp
  (refine g_ex (by rfl) rfl ?_; apply Exists.intro; refine ⟨fun W => ?_, ?_⟩; (go_simp; with_reducible rfl); go_simp)
  (refine g_ex (by rfl) rfl ?_; apply Exists.intro; refine ⟨fun W => ?_, ?_⟩; (go_simp; with_reducible rfl); go_simp)
  refine g_nil ?_
  intro w' J d hw'
  subst hw'
  go_wp2
  go_ret
  exact ⟨rfl, junk_of_below (by (repeat' (first | (with_reducible exact Below.refl _ _) | (with_reducible assumption) | (with_reducible refine Below.alloc ?_ ?_ _) | (with_reducible refine Below.drew ?_) | (with_reducible refine below_drewN ?_ _) | (with_reducible refine below_plus ?_ ?_ _ _) | (with_reducible refine Below.setCell ?_ ?_ _) | (with_reducible refine Below.setRow ?_ ?_ _) | go_size)))⟩
end Go.Proofs.Ytfapldajodobhaa
