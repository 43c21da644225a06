/- The law InsideBounds: the walk. -/
import Derived.Test.YthjjhfopmianoaaInT
import Derived.Test.YthjjhfopmianoaaPtThree
import Derived.Test.YthjjhfopmianoaaPtI
namespace Go.Proofs.Ythjjhfopmianoaa
set_option linter.unusedVariables false
set_option linter.unusedSimpArgs false
open Go.RowKit

theorem cross_same {p q : Pt} {K : List Pt} (h : ∀ k, k < K.length → countC p (K.getD k (0, 0)) (K.getD ((k + 1) % K.length) (0, 0)) = countC q (K.getD k (0, 0)) (K.getD ((k + 1) % K.length) (0, 0))) : inQ p K = inQ q K := by
  have e : ∀ k, k ≤ K.length → crossK p K k = crossK q K k := by
    intro k
    induction k with
    | zero => intro _; rfl
    | succ k ih =>
      intro hk
      show crossK p K k + oneN _ = crossK q K k + oneN _
      rw [ih (by omega), h k (by omega)]
  unfold inQ
  rw [← cross_all, ← cross_all, e _ (Nat.le_refl _)]
theorem all_ok {K : List Pt} (h : allOk K = true) : ∀ a ∈ K, okC a = true := by
  intro a ha
  unfold allOk at h
  exact List.all_eq_true.1 h a ha

set_option maxRecDepth 100000 in
set_option maxHeartbeats 2000000 in
theorem bounds_out (px py : Int) (w : World) (a : Option Addr) (n ca : Nat) (K : List Pt) (hK : PRC w a n ca K) (hs : n ≤ 9223372036854775807) (h : 100 < n ∨ bndOk K = false ∨ okP px py = false) :
    Calls Try.prog 8 #[pt px py, .slice a n ca] w fun e w' => e = .returned (.bool true) ∧ Junk w w' := by
  have HAw := Lib.hid l_inAwake
  have HK := Lib.hid hK.rd
  have HB := Lib.hid (fun w' (h : PReads w' a n K) => n_ptBounds w' a n ca K h hs)
  have HV := Lib.hid (fun w' => n_ptValid px py w')
  unfold boxV bxV at HB
  generalize boxF K = B at *
  generalize bndOk K = B0 at *
  generalize okP px py = B1 at *
  unfold pt at *
  clear hK
  by_cases h1 : 100 < n
  · have i1 : (100 : Int) < (n : Int) := by omega
    clear h h1
    go_enter Try.func8, Try.ntmps8
    go_wp2_with (first | (go_at_call 17; refine (HAw.out _).mono ?_; rintro e w1 ⟨rfl, J0, dJ0, rfl⟩) | (go_at_call 27; refine (HB.out _ (HK.out.below (by (repeat' (first | (with_reducible exact Below.refl _ _) | (with_reducible assumption) | (with_reducible refine Below.alloc ?_ ?_ _) | (with_reducible refine Below.drew ?_) | (with_reducible refine below_drewN ?_ _) | (with_reducible refine below_plus ?_ ?_ _ _) | (with_reducible refine Below.setCell ?_ ?_ _) | (with_reducible refine Below.setRow ?_ ?_ _) | go_size))))).mono ?_; rintro e w1 ⟨rfl, J1, d1, rfl⟩))
    go_ret
    exact ⟨rfl, junk_of_below (by (repeat' (first | (with_reducible exact Below.refl _ _) | (with_reducible assumption) | (with_reducible refine Below.alloc ?_ ?_ _) | (with_reducible refine Below.drew ?_) | (with_reducible refine below_drewN ?_ _) | (with_reducible refine below_plus ?_ ?_ _ _) | (with_reducible refine Below.setCell ?_ ?_ _) | (with_reducible refine Below.setRow ?_ ?_ _) | go_size)))⟩
  · have i1 : ¬ (100 : Int) < (n : Int) := by omega
    cases B0 with
    | false =>
      clear h h1
      go_enter Try.func8, Try.ntmps8
      go_wp2_with (first | (go_at_call 17; refine (HAw.out _).mono ?_; rintro e w1 ⟨rfl, J0, dJ0, rfl⟩) | (go_at_call 27; refine (HB.out _ (HK.out.below (by (repeat' (first | (with_reducible exact Below.refl _ _) | (with_reducible assumption) | (with_reducible refine Below.alloc ?_ ?_ _) | (with_reducible refine Below.drew ?_) | (with_reducible refine below_drewN ?_ _) | (with_reducible refine below_plus ?_ ?_ _ _) | (with_reducible refine Below.setCell ?_ ?_ _) | (with_reducible refine Below.setRow ?_ ?_ _) | go_size))))).mono ?_; rintro e w1 ⟨rfl, J1, d1, rfl⟩))
      go_ret
      exact ⟨rfl, junk_of_below (by (repeat' (first | (with_reducible exact Below.refl _ _) | (with_reducible assumption) | (with_reducible refine Below.alloc ?_ ?_ _) | (with_reducible refine Below.drew ?_) | (with_reducible refine below_drewN ?_ _) | (with_reducible refine below_plus ?_ ?_ _ _) | (with_reducible refine Below.setCell ?_ ?_ _) | (with_reducible refine Below.setRow ?_ ?_ _) | go_size)))⟩
    | true =>
      obtain rfl : B1 = false := by rcases h with h | h | h; exact absurd h h1; cases h; exact h
      clear h h1
      go_enter Try.func8, Try.ntmps8
      go_wp2_with (first | (go_at_call 17; refine (HAw.out _).mono ?_; rintro e w1 ⟨rfl, J0, dJ0, rfl⟩) | (go_at_call 27; refine (HB.out _ (HK.out.below (by (repeat' (first | (with_reducible exact Below.refl _ _) | (with_reducible assumption) | (with_reducible refine Below.alloc ?_ ?_ _) | (with_reducible refine Below.drew ?_) | (with_reducible refine below_drewN ?_ _) | (with_reducible refine below_plus ?_ ?_ _ _) | (with_reducible refine Below.setCell ?_ ?_ _) | (with_reducible refine Below.setRow ?_ ?_ _) | go_size))))).mono ?_; rintro e w1 ⟨rfl, J1, d1, rfl⟩) | (go_at_call 22; refine (HV.out _).mono ?_; rintro e w1 ⟨rfl, J2, d2, rfl⟩))
      go_ret
      exact ⟨rfl, junk_of_below (by (repeat' (first | (with_reducible exact Below.refl _ _) | (with_reducible assumption) | (with_reducible refine Below.alloc ?_ ?_ _) | (with_reducible refine Below.drew ?_) | (with_reducible refine below_drewN ?_ _) | (with_reducible refine below_plus ?_ ?_ _ _) | (with_reducible refine Below.setCell ?_ ?_ _) | (with_reducible refine Below.setRow ?_ ?_ _) | go_size)))⟩

/-- Between two rounds: so far the same edges count. -/
def SbAt (W : World) (p q : Pt) (K : List Pt) (i : Value) (wr : World) : Prop :=
  ∃ k : Nat, i = .int .i64 (k : Int) ∧ k ≤ K.length ∧ (∀ j, j < k → countC p (K.getD j (0, 0)) (K.getD ((j + 1) % K.length) (0, 0)) = countC q (K.getD j (0, 0)) (K.getD ((j + 1) % K.length) (0, 0))) ∧ Cls W wr
/-- Two points that have been laid. -/
def TwpAt (W : World) (u v x y : Int) (s t : Value) (wx : World) : Prop :=
  ∃ A B, s = .pointer (some ⟨A, 0, none⟩) ∧ t = .pointer (some ⟨B, 0, none⟩) ∧ Blk wx A #[.int .i64 u, .int .i64 v] 23 ∧ Blk wx B #[.int .i64 x, .int .i64 y] 23 ∧ Cls W wx

theorem tw_blk (W : World) (J : Array Obj) (d : Nat) (c1 c2 : Array Value) : Blk (((W.plus J d).alloc (.cells c1 23)).alloc (.cells c2 23)) (W.heap.size + J.size) c1 23 ∧ Blk (((W.plus J d).alloc (.cells c1 23)).alloc (.cells c2 23)) (W.heap.size + J.size + 1) c2 23 ∧
    Cls W (((W.plus J d).alloc (.cells c1 23)).alloc (.cells c2 23)) := by
  have hs : (W.plus J d).heap.size = W.heap.size + J.size := by simp
  have h1 := Blk.new (W.plus J d) c1 23
  have h2 := Blk.new ((W.plus J d).alloc (.cells c1 23)) c2 23
  rw [World.size_alloc] at h2
  rw [hs] at h1 h2
  exact ⟨h1.alloc _, h2, cls_of (junk_of_below (by (repeat' (first | (with_reducible exact Below.refl _ _) | (with_reducible assumption) | (with_reducible refine Below.alloc ?_ ?_ _) | (with_reducible refine Below.drew ?_) | (with_reducible refine below_drewN ?_ _) | (with_reducible refine below_plus ?_ ?_ _ _) | (with_reducible refine Below.setCell ?_ ?_ _) | (with_reducible refine Below.setRow ?_ ?_ _) | go_size))))⟩
theorem tw_a (W : World) (J : Array Obj) (d : Nat) (u v x y : Int) : TwpAt W u v x y (.pointer (some ⟨W.heap.size + J.size, 0, none⟩)) (.pointer (some ⟨W.heap.size + J.size + 1, 0, none⟩)) (((W.plus J d).alloc (.cells #[.int .i64 u, .int .i64 v] 23)).alloc (.cells #[.int .i64 x, .int .i64 y] 23)) := by
  obtain ⟨h1, h2, h3⟩ := tw_blk W J d #[.int .i64 u, .int .i64 v] #[.int .i64 x, .int .i64 y]
  exact ⟨_, _, rfl, rfl, h1, h2, h3⟩
theorem tw_b (W : World) (J : Array Obj) (d : Nat) (u v x y : Int) : TwpAt W u v x y (.pointer (some ⟨W.heap.size + J.size + 1, 0, none⟩)) (.pointer (some ⟨W.heap.size + J.size, 0, none⟩)) (((W.plus J d).alloc (.cells #[.int .i64 x, .int .i64 y] 23)).alloc (.cells #[.int .i64 u, .int .i64 v] 23)) := by
  obtain ⟨h1, h2, h3⟩ := tw_blk W J d #[.int .i64 x, .int .i64 y] #[.int .i64 u, .int .i64 v]
  exact ⟨_, _, rfl, rfl, h2, h1, h3⟩

set_option maxRecDepth 100000 in
set_option maxHeartbeats 8000000 in
theorem bounds_in (px py : Int) (w : World) (a : Option Addr) (n ca : Nat) (K : List Pt) (hK : PRC w a n ca K) (h1 : ¬ 100 < n) (hb : bndOk K = true) (hp : okP px py = true) :
    Calls Try.prog 8 #[pt px py, .slice a n ca] w fun e w' => e = .returned (.bool true) ∧ Junk w w' := by
  have HAw := Lib.hid l_inAwake
  have HK := Lib.hid hK
  have L1 := Lib.hid hK.rd.1
  have HKc := Lib.hid hK.rd.2
  have HV := Lib.hid (fun w' => n_ptValid px py w')
  have HB := Lib.hid (fun w' (h : PReads w' a n K) => n_ptBounds w' a n ca K h (by omega))
  have HI := Lib.hid (fun w' (h : PRC w' a n ca K) => c_inIn px py w' a n ca K h (by omega))
  have HJ := Lib.hid (fun w' (h : PRC w' a n ca K) => c_inIn (px + 1) py w' a n ca K h (by omega))
  have HS := Lib.hid (fun h => cross_same (p := (px, py)) (q := (px + 1, py)) (K := K) h)
  have HA := Lib.hid (fun w' => l_inAt (px + 1) py w')
  have HW := Lib.hid (fun w' => n_ptValid (px + 1) py w')
  have hp2 := okP_iff.mp hp
  have e1 : IntKind.i64.wrap (px + 1) = px + 1 := by simp [IntKind.wrap, IntKind.signed, IntKind.bits]; omega
  have i1 : ¬ (100 : Int) < (n : Int) := by omega
  have hb2 : 0 < K.length ∧ allOk K = true := by simpa [bndOk] using hb
  have hin := fun h => in_bnd (p := (px, py)) (K := K) hp (all_ok hb2.2) h
  rw [boxV_some hb, hb] at HB
  rw [hp] at HV
  simp only at hin
  have HP := Lib.hid (fun w' => n_ptIn px py (lxF K K.length) (lyF K K.length) (hxF K K.length + 1) (hyF K K.length + 1) w')
  generalize inF px py (lxF K K.length) (lyF K K.length) (hxF K K.length + 1) (hyF K K.length + 1) = io at *
  generalize lxF K K.length = A1 at *
  generalize lyF K K.length = A2 at *
  generalize hxF K K.length + 1 = A3 at *
  generalize hyF K K.length + 1 = A4 at *
  generalize inQ (px, py) K = r at *
  generalize inQ (px + 1, py) K = r2 at *
  unfold pt bxV at *
  clear hK h1 hb hb2 hp hp2
  go_enter Try.func8, Try.ntmps8
  go_upto_region 5 with (first | (go_at_call 17; refine (HAw.out _).mono ?_; rintro e w1 ⟨rfl, J0, dJ0, rfl⟩) | (go_at_call 27; refine (HB.out _ (HK.out.rd.below (by (repeat' (first | (with_reducible exact Below.refl _ _) | (with_reducible assumption) | (with_reducible refine Below.alloc ?_ ?_ _) | (with_reducible refine Below.drew ?_) | (with_reducible refine below_drewN ?_ _) | (with_reducible refine below_plus ?_ ?_ _ _) | (with_reducible refine Below.setCell ?_ ?_ _) | (with_reducible refine Below.setRow ?_ ?_ _) | go_size))))).mono ?_; rintro e w1 ⟨rfl, J1, d1, rfl⟩) | (go_at_call 22; refine (HV.out _).mono ?_; rintro e w1 ⟨rfl, J2, d2, rfl⟩))
  obtain ⟨W, hW⟩ : ∃ W, (((w.alloc (.cells #[.int .i64 px, .int .i64 py] 23)).plus (J0 ++ J1) d1).alloc (.cells #[.int .i64 A1, .int .i64 A2, .int .i64 A3, .int .i64 A4] 43)).plus J2 d2 = W := ⟨_, rfl⟩
  obtain ⟨B, hB⟩ : ∃ B, w.heap.size + 1 + (J0.size + J1.size) = B := ⟨_, rfl⟩
  have p0 : W.cell? ⟨w.heap.size, 0, none⟩ = some (.int .i64 px) := by rw [← hW]; simp [go_sem]
  have p1 : W.cell? ⟨w.heap.size, 1, none⟩ = some (.int .i64 py) := by rw [← hW]; simp [go_sem]
  have b0 : W.cell? ⟨B, 0, none⟩ = some (.int .i64 A1) := by rw [← hW, ← hB]; simp [go_sem]
  have b1 : W.cell? ⟨B, 1, none⟩ = some (.int .i64 A2) := by rw [← hW, ← hB]; simp [go_sem]
  have b2 : W.cell? ⟨B, 2, none⟩ = some (.int .i64 A3) := by rw [← hW, ← hB]; simp [go_sem]
  have b3 : W.cell? ⟨B, 3, none⟩ = some (.int .i64 A4) := by rw [← hW, ← hB]; simp [go_sem]
  have hj : Below w.heap.size w W := by rw [← hW]; (repeat' (first | (with_reducible exact Below.refl _ _) | (with_reducible assumption) | (with_reducible refine Below.alloc ?_ ?_ _) | (with_reducible refine Below.drew ?_) | (with_reducible refine below_drewN ?_ _) | (with_reducible refine below_plus ?_ ?_ _ _) | (with_reducible refine Below.setCell ?_ ?_ _) | (with_reducible refine Below.setRow ?_ ?_ _) | go_size))
  have l0 : w.heap.size < W.heap.size := World.block_lt_of_cell? _ _ p0
  have lB : B < W.heap.size := World.block_lt_of_cell? _ _ b0
  have HKW := Lib.hid (HK.out.below hj)
  have HJ0 := Lib.hid hj
  simp only [hW, hB]
  clear hW hB hj HAw HB HV
  go_cut [39] from 31 to 39 (fun t wx => t = .bool false ∧ Cls W wx)
  case first =>
    cases r with
    | false =>
      go_wp2_with (go_at_call 14; refine (HI.out _ HKW.out).mono ?_; rintro e w1 ⟨rfl, J3, d3, rfl⟩)
      go_meet
      case rel => exact ⟨rfl, cls_of (junk_of_below (by (repeat' (first | (with_reducible exact Below.refl _ _) | (with_reducible assumption) | (with_reducible refine Below.alloc ?_ ?_ _) | (with_reducible refine Below.drew ?_) | (with_reducible refine below_drewN ?_ _) | (with_reducible refine below_plus ?_ ?_ _ _) | (with_reducible refine Below.setCell ?_ ?_ _) | (with_reducible refine Below.setRow ?_ ?_ _) | go_size))))⟩
    | true =>
      obtain rfl := hin rfl
      go_wp2_with (first | (go_at_call 14; refine (HI.out _ HKW.out).mono ?_; rintro e w1 ⟨rfl, J3, d3, rfl⟩) | (go_at_call 24; refine (HP.out _).mono ?_; rintro e w1 ⟨rfl, J4, d4, rfl⟩))
      go_meet
      case rel => exact ⟨rfl, cls_of (junk_of_below (by (repeat' (first | (with_reducible exact Below.refl _ _) | (with_reducible assumption) | (with_reducible refine Below.alloc ?_ ?_ _) | (with_reducible refine Below.drew ?_) | (with_reducible refine below_drewN ?_ _) | (with_reducible refine below_plus ?_ ?_ _ _) | (with_reducible refine Below.setCell ?_ ?_ _) | (with_reducible refine Below.setRow ?_ ?_ _) | go_size))))⟩
  case rest =>
  obtain ⟨rfl, J5, d5, rfl⟩ := hcut
  clear HP hin b0 b1 b2 b3 lB
  obtain ⟨v, hv⟩ : ∃ v, okP (px + 1) py = v := ⟨_, rfl⟩
  simp only [hv] at HW
  clear hv
  cases v with
  | false =>
    go_wp2_with (first | (go_at_call 25; refine (HA.out _).mono ?_; rintro e w1 ⟨rfl, J3, d3, rfl⟩) | (go_at_call 22; refine (HW.out _).mono ?_; rintro e w1 ⟨rfl, J4, d4, rfl⟩))
    go_ret
    exact ⟨rfl, junk_of_below (HJ0.out.trans ((show Below W.heap.size W _ by (repeat' (first | (with_reducible exact Below.refl _ _) | (with_reducible assumption) | (with_reducible refine Below.alloc ?_ ?_ _) | (with_reducible refine Below.drew ?_) | (with_reducible refine below_drewN ?_ _) | (with_reducible refine below_plus ?_ ?_ _ _) | (with_reducible refine Below.setCell ?_ ?_ _) | (with_reducible refine Below.setRow ?_ ?_ _) | go_size))).mono HJ0.out.size))⟩
  | true =>
    go_upto_region 11 with (first | (go_at_call 25; refine (HA.out _).mono ?_; rintro e w1 ⟨rfl, J3, d3, rfl⟩) | (go_at_call 22; refine (HW.out _).mono ?_; rintro e w1 ⟨rfl, J4, d4, rfl⟩))
    obtain ⟨V, hV⟩ : ∃ V, ((W.plus (J5 ++ J3) d3).alloc (.cells #[.int .i64 (px + 1), .int .i64 py] 23)).plus J4 d4 = V := ⟨_, rfl⟩
    obtain ⟨C, hC⟩ : ∃ C, W.heap.size + (J5.size + J3.size) = C := ⟨_, rfl⟩
    have hjV : Below W.heap.size W V := by rw [← hV]; (repeat' (first | (with_reducible exact Below.refl _ _) | (with_reducible assumption) | (with_reducible refine Below.alloc ?_ ?_ _) | (with_reducible refine Below.drew ?_) | (with_reducible refine below_drewN ?_ _) | (with_reducible refine below_plus ?_ ?_ _ _) | (with_reducible refine Below.setCell ?_ ?_ _) | (with_reducible refine Below.setRow ?_ ?_ _) | go_size))
    have q0 : V.cell? ⟨w.heap.size, 0, none⟩ = some (.int .i64 px) := (World.cell?_of_block (hjV.block _ l0)).trans p0
    have q1 : V.cell? ⟨w.heap.size, 1, none⟩ = some (.int .i64 py) := (World.cell?_of_block (hjV.block _ l0)).trans p1
    have q2 : V.cell? ⟨C, 0, none⟩ = some (.int .i64 (px + 1)) := by rw [← hV, ← hC]; simp [go_sem]
    have q3 : V.cell? ⟨C, 1, none⟩ = some (.int .i64 py) := by rw [← hV, ← hC]; simp [go_sem]
    have HKV := Lib.hid (HKW.out.below hjV)
    have HJV := Lib.hid (HJ0.out.trans (hjV.mono HJ0.out.size))
    simp only [hV, hC]
    clear hV hC hjV p0 p1 l0 HKW HJ0 HA HW HK HKc
    have l0 : w.heap.size < V.heap.size := World.block_lt_of_cell? _ _ q0
    have lC : C < V.heap.size := World.block_lt_of_cell? _ _ q2
    go_loopw [9] (fun i wr => SbAt V (px, py) (px + 1, py) K i wr) (fun i _ => n - (intOf i).toNat)
    case atStart => exact ⟨0, rfl, by omega, fun j hj => absurd hj (by omega), #[], _, (plus_nil _).symm⟩
    case round =>
      obtain ⟨k, rfl, k1, hsm, J6, d6, rfl⟩ := hrel
      rw [L1.out] at k1
      have HSM := Lib.hid hsm
      clear hsm
      by_cases hlt : k < n
      · rcases HKV.out.rd.2 with h0 | ⟨b, o, rfl, hc⟩
        · omega
        obtain ⟨j, hjn, ej⟩ : ∃ j : Nat, j < n ∧ (k + 1) % n = j := ⟨_, Nat.mod_lt _ (by omega), rfl⟩
        obtain ⟨c1, c2⟩ := hc k hlt
        obtain ⟨c3, c4⟩ := hc j hjn
        have ej2 : (k + 1) % K.length = j := by rw [L1.out]; exact ej
        obtain ⟨u, v, hx⟩ : ∃ u v : Int, K.getD k (0, 0) = (u, v) := ⟨_, _, rfl⟩
        obtain ⟨x, y, hy⟩ : ∃ x y : Int, K.getD j (0, 0) = (x, y) := ⟨_, _, rfl⟩
        rw [hx] at c1 c2
        rw [hy] at c3 c4
        simp only at c1 c2 c3 c4
        have hb : b < V.heap.size := World.block_lt_of_cell? _ _ c1
        have HC1 := fun w' => c_inCounts px py u v x y w'
        have HC2 := fun w' => c_inCounts (px + 1) py u v x y w'
        obtain ⟨g1, hg1⟩ : ∃ g, countC (px, py) (u, v) (x, y) = g := ⟨_, rfl⟩
        obtain ⟨g2, hg2⟩ : ∃ g, countC (px + 1, py) (u, v) (x, y) = g := ⟨_, rfl⟩
        simp only [hg1] at HC1
        simp only [hg2] at HC2
        unfold pt at HC1 HC2
        have HC1 := Lib.hid HC1
        have HC2 := Lib.hid HC2
        have HST := Lib.hid (fun (h : g1 = g2) (i : Nat) (hi : i < k + 1) => show countC (px, py) (K.getD i (0, 0)) (K.getD ((i + 1) % K.length) (0, 0)) = countC (px + 1, py) (K.getD i (0, 0)) (K.getD ((i + 1) % K.length) (0, 0)) by
          by_cases e : i = k
          · subst e; rw [ej2, hx, hy, hg1, hg2, h]
          · exact HSM.out i (by omega))
        have i2 : (k : Int) < (n : Int) := by omega
        have i3 : (j : Int) < (n : Int) := by omega
        have e3 : ((k : Int) + 1) % (n : Int) = (j : Int) := by rw [← ej]; push_cast; rfl
        have w1 : IntKind.i64.wrap ((k : Int) + 1) = (k : Int) + 1 := by simp [IntKind.wrap, IntKind.signed, IntKind.bits]; omega
        have w2 : ((k : Int) + 1).tmod (n : Int) = (j : Int) := by rw [Int.tmod_eq_emod_of_nonneg (by omega)]; exact e3
        have w3 : ¬ n = 0 := by omega
        clear hc hx hy hg1 hg2 ej ej2
        go_upto_region 13 with fail
        go_cut [10, 11] from 50 to 67 (fun s t wx => TwpAt V u v x y s t wx)
        case first =>
          go_region
          all_goals (go_wp2_with fail)
          all_goals go_meet
          all_goals first | exact tw_a _ _ _ _ _ _ _ | exact tw_b _ _ _ _ _ _ _
        case rest =>
        obtain ⟨A, B2, rfl, rfl, hA, hB2, J7, d7, rfl⟩ := hcut
        have a0 := hA.cell 0
        have a1 := hA.cell 1
        have a2 := hB2.cell 0
        have a3 := hB2.cell 1
        have lA := hA.lt
        have lB2 := hB2.lt
        have s0 : (V.plus J7 d7).cell? ⟨w.heap.size, 0, none⟩ = some (.int .i64 px) := by simp [go_sem, *]
        have s1 : (V.plus J7 d7).cell? ⟨w.heap.size, 1, none⟩ = some (.int .i64 py) := by simp [go_sem, *]
        have s2 : (V.plus J7 d7).cell? ⟨C, 0, none⟩ = some (.int .i64 (px + 1)) := by simp [go_sem, *]
        have s3 : (V.plus J7 d7).cell? ⟨C, 1, none⟩ = some (.int .i64 py) := by simp [go_sem, *]
        have m0 : w.heap.size < (V.plus J7 d7).heap.size := World.block_lt_of_cell? _ _ s0
        have mC : C < (V.plus J7 d7).heap.size := World.block_lt_of_cell? _ _ s2
        obtain ⟨X, hX⟩ : ∃ X, V.plus J7 d7 = X := ⟨_, rfl⟩
        have HX := Lib.hid hX
        rw [hX] at a0 a1 a2 a3 lA lB2 s0 s1 s2 s3 m0 mC ⊢
        clear hX hA hB2 q0 q1 q2 q3 l0 lC hb c1 c2 c3 c4 e3 w2
        go_upto_region 14 with fail
        refine region_quiet_all (C := Cls X) (by kernel_rfl) (by kernel_rfl) (cls_drawn _) ?_
        repeat (first | (refine qw_skip (by rfl) ?_; simp only [Act.put, List.setIfInBounds_toArray, List.set_cons_succ, List.set_cons_zero]) | (refine qw_want (by rfl) (fun K hK => ?_); go_simp; first | (refine hK _ ?_; clear hK K) | (apply Exists.intro; refine ⟨?_, hK _ ?_⟩; (rintro w3_ ⟨J3_, d3_, rfl⟩; first | (with_reducible exact rfl) | (go_simp; with_reducible exact rfl) | (go_simp; (first | (with_reducible refine (HC1.out _).mono ?_) | (with_reducible refine (HC2.out _).mono ?_)); rintro e_ w_ ⟨rfl, J4_, d4_, rfl⟩; exact ⟨rfl, J3_ ++ J4_, d4_, by simp only [plus_plus, Array.append_assoc]⟩)); clear hK K)))
        refine qw_nil ?_
        rintro w7 ⟨J8, d8, rfl⟩
        rcases (show (g1 = true ∧ g2 = true) ∨ (g1 = false ∧ g2 = false) ∨ (g1 = true ∧ g2 = false) ∨ (g1 = false ∧ g2 = true) by cases g1 <;> cases g2 <;> simp) with ⟨rfl, rfl⟩ | ⟨rfl, rfl⟩ | ⟨rfl, rfl⟩ | ⟨rfl, rfl⟩
        · have HR := Lib.hid (HST.out rfl)
          go_wp2_with fail
          go_roundw
          case rel => exact ⟨k + 1, by go_num, by rw [L1.out]; omega, HR.out, by rw [← HX.out]; exact ⟨_, _, plus_plus _ _ _ _ _⟩⟩
          case measure => simp [intOf]; omega
        · have HR := Lib.hid (HST.out rfl)
          go_wp2_with fail
          go_roundw
          case rel => exact ⟨k + 1, by go_num, by rw [L1.out]; omega, HR.out, by rw [← HX.out]; exact ⟨_, _, plus_plus _ _ _ _ _⟩⟩
          case measure => simp [intOf]; omega
        all_goals
          clear HST
          go_wp2_with fail
          go_ret
          exact ⟨rfl, junk_of_below (HJV.out.trans ((show Below V.heap.size V (X.plus J8 d8) by rw [← HX.out, plus_plus]; exact Junk.below ⟨_, _, rfl⟩).mono HJV.out.size))⟩
      · obtain rfl : k = n := by omega
        have i2 : ¬ (k : Int) < (k : Int) := by omega
        obtain rfl : r = r2 := HS.out (fun i hi => HSM.out i (by rw [L1.out] at hi; exact hi))
        have HI1 := Lib.hid (fun (J : Array Obj) (d : Nat) => HI.out (V.plus J d) (HKV.out.below (Junk.below ⟨J, d, rfl⟩)))
        have HI2 := Lib.hid (fun (J : Array Obj) (d : Nat) => HJ.out (V.plus J d) (HKV.out.below (Junk.below ⟨J, d, rfl⟩)))
        clear HS HSM HI HJ
        go_upto_region 16 with fail
        refine region_quiet_all (C := Cls V) (by kernel_rfl) (by kernel_rfl) ⟨_, _, rfl⟩ ?_
        repeat (first | (refine qw_skip (by rfl) ?_; simp only [Act.put, List.setIfInBounds_toArray, List.set_cons_succ, List.set_cons_zero]) | (refine qw_want (by rfl) (fun K hK => ?_); go_simp; first | (refine hK _ ?_; clear hK K) | (apply Exists.intro; refine ⟨?_, hK _ ?_⟩; (rintro w3_ ⟨J3_, d3_, rfl⟩; first | (with_reducible exact rfl) | (go_simp; with_reducible exact rfl) | (go_simp; (first | (with_reducible refine (HKV.out _).mono ?_) | (with_reducible refine (HI1.out _ _).mono ?_) | (with_reducible refine (HI2.out _ _).mono ?_)); rintro e_ w_ ⟨rfl, J4_, d4_, rfl⟩; exact ⟨rfl, J3_ ++ J4_, d4_, by simp only [plus_plus, Array.append_assoc]⟩)); clear hK K)))
        refine qw_nil ?_
        rintro w7 ⟨J8, d8, rfl⟩
        go_wp2_with fail
        go_ret
        exact ⟨by simp, junk_of_below (HJV.out.trans ((Junk.below ⟨_, _, rfl⟩).mono HJV.out.size))⟩
theorem l_insideBounds (w : World) (px py : Int) (a : Option Addr) (n ca : Nat) (K : List Pt) (hK : PRC w a n ca K) (hs : n ≤ 9223372036854775807) (_ : a = none → n = 0 ∧ ca = 0) :
    Calls Try.prog 8 #[pt px py, .slice a n ca] w fun e w' => e = .returned (.bool true) ∧ Junk w w' := by
  by_cases h : 100 < n ∨ bndOk K = false ∨ okP px py = false
  · exact bounds_out px py w a n ca K hK hs h
  · have h1 : ¬ 100 < n := fun k => h (.inl k)
    have h2 : bndOk K = true := by cases e : bndOk K; exact absurd (.inr (.inl e)) h; rfl
    have h3 : okP px py = true := by cases e : okP px py; exact absurd (.inr (.inr e)) h; rfl
    exact bounds_in px py w a n ca K hK h1 h2 h3
end Go.Proofs.Ythjjhfopmianoaa
