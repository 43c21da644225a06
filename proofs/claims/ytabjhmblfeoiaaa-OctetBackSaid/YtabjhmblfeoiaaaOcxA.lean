/- octet's Put, PutText, PutList told as functions of the world: which row they return, and which world they leave. -/
import Derived.Test.YtabjhmblfeoiaaaOcuB
import Derived.Test.YtabjhmblfeoiaaaOctK
namespace Go.Proofs.Ytabjhmblfeoiaaa
set_option linter.unusedVariables false
set_option linter.unusedSimpArgs false
open Go.RowKit

/-- The run of append is a function: what it answers, with its equation. -/
theorem wpList_dapp {ops : Array Oper} {rest : List Oper} {o : Oper} {a : Act} {w : World} {Q : Exit → Act → World → Prop} (hgd : o.guard = none) (s x : Operand)
    (ho : o.op = .call { callee := .builtin .append, args := #[s, x], argTypes := #[24, 24] }) (hty : o.type = 24) (base : Nat) (v : Value) (xs : List UInt8) (hs : a.eval s = v) (hown : BOwns w base v xs)
    (ad : Addr) (len cap : Nat) (ys : List UInt8) (hx : a.eval x = .slice (some ad) len cap) (hr : BReads w (some ad) len ys) (hm : xs.length + len ≤ 17592186044416) (hb : base ≤ w.heap.size)
    (h : ∀ v' w', (Builtin.append_ #[24, 24] 24 #[v, .slice (some ad) len cap]).run Try.prog w = .ok v' w' → BOwns w' base v' (xs ++ ys) → w.grownBy w' v.ownBlock → wpList Try.prog ops Q rest (a.put o.dst v') w') : wpList Try.prog ops Q (o :: rest) a w := by
  obtain ⟨i0, hi0, hz0, hz1, hz2⟩ := info_u8
  refine wpList_plain hgd fun K hK => ?_
  obtain ⟨v', w', hrun, h2, h3, h4⟩ := run_append_own (P := Try.prog) w base 24 24 5 i0 (.int .u8 0) 1 1 Try.underlying24 hi0 hz0 hz1 hz2 rfl (by decide) v xs.length (bcells xs) hown ad len cap (bcells ys) (by rw [bcells_len, hr.1, Nat.mul_one]) hr.cells (bcells_one ys) (by simp only [maxLen]; omega) (by omega) hb
  unfold Oper.wp execOp
  simp only [ho, hty, resolve, invoke, builtin, Sem.run_bind, Sem.run_pure, Result.andThen_ok, List.map_toArray, List.map_cons, List.map_nil, hs, hx, hrun]
  refine hK _ _ (h v' w' hrun ?_ h3)
  rw [bcells_app] at h2
  unfold BOwns
  rw [List.length_append, hr.1]
  exact h2
theorem wpList_dsapp {ops : Array Oper} {rest : List Oper} {o : Oper} {a : Act} {w : World} {Q : Exit → Act → World → Prop} (hgd : o.guard = none) (sl x : Operand)
    (ho : o.op = .call { callee := .builtin .append, args := #[sl, x], argTypes := #[24, 9] }) (hty : o.type = 24) (base : Nat) (v : Value) (xs : List UInt8) (hs : a.eval sl = v) (hown : BOwns w base v xs)
    (ys : List UInt8) (hx : a.eval x = .string ⟨ys.toArray⟩) (hm : xs.length + ys.length ≤ 17592186044416) (hb : base ≤ w.heap.size)
    (h : ∀ v' w', (Builtin.append_ #[24, 9] 24 #[v, .string ⟨ys.toArray⟩]).run Try.prog w = .ok v' w' → BOwns w' base v' (xs ++ ys) → w.grownBy w' v.ownBlock → wpList Try.prog ops Q rest (a.put o.dst v') w') : wpList Try.prog ops Q (o :: rest) a w := by
  obtain ⟨i0, hi0, hz0, hz1, hz2⟩ := info_u8
  have hsz : (⟨ys.toArray⟩ : ByteArray).size = ys.length := by simp [ByteArray.size]
  refine wpList_plain hgd fun K hK => ?_
  obtain ⟨v', w', hrun, h2, h3, h4⟩ := Lib.run_append_own_string (P := Try.prog) w base 24 9 24 5 i0 Try.underlying24 Try.underlying9 hi0 hz0 hz1 hz2 v xs.length (bcells xs) hown ⟨ys.toArray⟩ (by rw [hsz]; simp only [maxLen]; omega) (by rw [hsz]; omega) hb
  unfold Oper.wp execOp
  simp only [ho, hty, resolve, invoke, builtin, Sem.run_bind, Sem.run_pure, Result.andThen_ok, List.map_toArray, List.map_cons, List.map_nil, hs, hx, hrun]
  refine hK _ _ (h v' w' hrun ?_ h3)
  rw [hsz, strCells_b, bcells_app] at h2
  unfold BOwns
  rw [List.length_append]
  exact h2

noncomputable def runPair (r : Result Value) (d : Value × World) : Value × World := match r with
  | .ok v w => (v, w)
  | _ => d
noncomputable def appStep (w : World) (v : Value) (z : Nat) : Value × World :=
  runPair ((Builtin.append_ #[24, 24] 24 #[v, .slice (some ⟨w.heap.size, 0, none⟩) 1 1]).run Try.prog (w.alloc (.cells #[.int .u8 (z : Int)] 5))) (v, w)
theorem appStep_of {w w' : World} {v v' : Value} {z : Nat} (h : (Builtin.append_ #[24, 24] 24 #[v, .slice (some ⟨w.heap.size, 0, none⟩) 1 1]).run Try.prog (w.alloc (.cells #[.int .u8 (z : Int)] 5)) = .ok v' w') : appStep w v z = (v', w') := by
  unfold appStep; rw [h]; rfl
noncomputable def appGo : Nat → Nat → Value → World → Value × World
  | 0, r, v, w => appStep w v r
  | f + 1, r, v, w => if r < 128 then appStep w v r else appGo f (r / 128) (appStep w v (r % 128 + 128)).1 (appStep w v (r % 128 + 128)).2
noncomputable def appNum (n : Int) (v : Value) (w : World) : Value × World := appGo 10 (rank n) v w
noncomputable def txtStep (s : List UInt8) (v : Value) (w : World) : Value × World := runPair ((Builtin.append_ #[24, 9] 24 #[v, .string ⟨s.toArray⟩]).run Try.prog w) (v, w)
noncomputable def putT (s : List UInt8) (w : World) : Value × World := txtStep s (appNum (s.length : Int) (.slice none 0 0) w).1 (appNum (s.length : Int) (.slice none 0 0) w).2
noncomputable def listGo : List Int → Value → World → Value × World
  | [], v, w => (v, w)
  | x :: l, v, w => listGo l (appNum x v w).1 (appNum x v w).2
noncomputable def putL (l : List Int) (w : World) : Value × World := listGo l (appNum (l.length : Int) (.slice none 0 0) w).1 (appNum (l.length : Int) (.slice none 0 0) w).2

theorem d_rankOf (n : Int) (h : I64 n) (w : World) : Calls Try.prog 61 #[.int .i64 n] w fun e w' => e = .returned (.int .u64 (rank n : Int)) ∧ w' = w := by
  have HE := Lib.hid (rank_bits h)
  obtain ⟨h0, h1⟩ := h
  go_enter Try.func61, Try.ntmps61
  go_wp2
  go_ret
  exact ⟨ret1 HE.out, rfl⟩
theorem d_SameBytes (w : World) (a b : Option Addr) (n m ca cb : Nat) (L M : List UInt8) (hL : BReads w a n L) (hM : BReads w b m M) :
    Calls Try.prog 18 #[.slice a n ca, .slice b m cb] w fun e w' => e = .returned (.bool (decide (L = M))) ∧ w' = w := by
  have h1 := conv_in (cap := ca) hL
  have h2 := conv_in (cap := cb) hM
  clear hL hM
  go_enter Try.func18, Try.ntmps18
  go_wp2
  go_ret
  exact ⟨by rw [show (L == M) = decide (L = M) by by_cases h : L = M <;> simp [h]]; rfl, rfl⟩

/-- A call hands on a row of bytes: which one, and which world. -/
def DRes (T : Value × World) (base : Nat) (w : World) (D : List UInt8) (e : Ending) (w' : World) : Prop := e = .returned T.1 ∧ w' = T.2 ∧ BOwns T.2 base T.1 D ∧ Below base w T.2
def DAppAt (T : Value × World) (w : World) (base : Nat) (E : List UInt8) (X : Nat) (o x : Value) (wr : World) : Prop := ∃ (D : List UInt8) (r f : Nat), x = .int .u64 (r : Int) ∧ BOwns wr base o D ∧ (appGo f r o wr = T ∧ r < 128 ^ (f + 1)) ∧ D ++ encR r = E ∧ r ≤ X ∧ Below base w wr ∧ base ≤ wr.heap.size

set_option maxRecDepth 100000 in
set_option maxHeartbeats 2000000 in
theorem d_appendNumber (n : Int) (h : I64 n) (w : World) (base : Nat) (hb : base ≤ w.heap.size) (v : Value) (L : List UInt8) (hown : BOwns w base v L) (hl : L.length ≤ 1099511627776) :
    Calls Try.prog 44 #[v, .int .i64 n] w (DRes (appNum n v w) base w (L ++ encN n)) := by
  unfold appNum
  obtain ⟨X, hX⟩ : ∃ X, rank n = X := ⟨_, rfl⟩
  have HRank : Hid (∀ w, Calls Try.prog 61 #[.int .i64 n] w fun e w' => e = .returned (.int .u64 (X : Int)) ∧ w' = w) := Lib.hid (fun w => by rw [← hX]; exact d_rankOf n h w)
  obtain ⟨h0, h1⟩ := h
  unfold encN
  have hXl : X < 18446744073709551616 := by rw [← hX]; exact rank_lt h0 h1
  rw [hX]
  have HLX := Lib.hid (show (L ++ encR X).length ≤ L.length + 10 by have := enc_len10 hXl; simp; omega)
  have HL := Lib.hid hl
  have HO0 := Lib.hid hown
  obtain ⟨E, hE⟩ : ∃ E, L ++ encR X = E := ⟨_, rfl⟩
  have HE0 := Lib.hid hE
  rw [hE] at HLX ⊢
  obtain ⟨T, hT⟩ : ∃ T, appGo 10 X v w = T := ⟨_, rfl⟩
  have HT0 := Lib.hid (show appGo 10 X v w = T ∧ X < 128 ^ (10 + 1) from ⟨hT, Nat.lt_of_lt_of_le hXl (by decide)⟩)
  rw [hT]
  have HXL := Lib.hid hXl
  have HBW := Lib.hid hb
  clear hX hXl hl hE hown h0 h1 hb hT
  go_enter Try.func44, Try.ntmps44
  go_wp2_with fail
  refine (HRank.out _).mono ?_; rintro e w1 ⟨rfl, hw1⟩
  subst hw1
  go_wp2_with fail
  go_loopw [0, 5] (fun o x wr => DAppAt T w1 base E X o x wr) (fun _ x _ => (intOf x).toNat)
  case atStart => exact ⟨L, X, 10, rfl, HO0.out, HT0.out, HE0.out, Nat.le_refl _, Below.refl _ _, HBW.out⟩
  case round =>
    obtain ⟨D, r, f, rfl, ho, hgo, hD, hr, hj, hbase⟩ := hrel
    have HGO := Lib.hid hgo
    clear hgo
    have hr64 : r < 18446744073709551616 := by have := HXL.out; omega
    have hDl : D.length ≤ 1099511627786 := by have h1 := congrArg List.length hD; have h2 := HLX.out; have h3 := HL.out; simp at h1; omega
    have HO := Lib.hid ho; have HD := Lib.hid hD; have HJ := Lib.hid hj; have HDl := Lib.hid hDl
    by_cases hlt : r < 128
    · have hz : (UInt8.ofNat r).toNat = r := byte_of (by omega)
      have HR := breads_one wr (UInt8.ofNat r)
      rw [hz] at HR
      have HR := Lib.hid HR
      have HE := Lib.hid (show D ++ [UInt8.ofNat r] = E by rw [← hD, enc_lt hlt])
      clear ho hD hj hz hr64 hDl
      go_wp2_with (at_builtin; refine wpList_dapp rfl (.tmp 18) (.tmp 21) rfl rfl base _ D rfl (HO.out.below ((Below.refl _ _).alloc (Nat.le_refl _) _)) ⟨wr.heap.size, 0, none⟩ 1 1 [UInt8.ofNat r] rfl HR.out (by have := HDl.out; simp; omega) (by simp; omega) ?_; intro v' w' hrun hown hg)
      go_ret
      have hst : appStep wr u0 r = (v', w') := appStep_of hrun
      have hTT : (v', w') = T := by
        rw [← HGO.out.1, ← hst]
        cases f with
        | zero => rfl
        | succ f => rw [appGo, if_pos hlt]
      subst hTT
      refine ⟨rfl, rfl, by rw [← HE.out]; exact hown, ?_⟩
      exact ((HJ.out.alloc hbase _).grown hg (by simp; omega) (fun k hk => HO.out.block k hk))
    · obtain ⟨z, hz⟩ : ∃ z, z = UInt8.ofNat (r % 128 + 128) := ⟨_, rfl⟩
      have hzn : z.toNat = r % 128 + 128 := by rw [hz]; exact byte_of (by omega)
      obtain ⟨c, hc⟩ : ∃ c, r % 128 + 128 = c := ⟨_, rfl⟩
      obtain ⟨d, hd⟩ : ∃ d, r % 256 = d := ⟨_, rfl⟩
      obtain ⟨q, hq⟩ : ∃ q, r / 128 = q := ⟨_, rfl⟩
      have e1 : (r : Int) % 256 = (d : Int) := by omega
      have e2 : (r : Int) / 128 = (q : Int) := by omega
      have e3 : bits .or .u8 (d : Int) 128 = (c : Int) := by rw [bits_or8 d (by omega)]; congr 1; omega
      have HR := breads_one wr z
      rw [hzn, hc] at HR
      have HR := Lib.hid HR
      have HE := Lib.hid (show (D ++ [z]) ++ encR q = E by rw [← hD, enc_ge hlt, hz, hq]; simp)
      have HQ := Lib.hid (show q < r ∧ q ≤ X by omega)
      have HGN := Lib.hid (show ∃ f', f = f' + 1 ∧ q < 128 ^ (f' + 1) ∧ (∀ v' w', appStep wr u0 c = (v', w') → appGo f' q v' w' = T) by
        obtain ⟨g1, g2⟩ := HGO.out
        cases f with
        | zero => simp at g2; omega
        | succ f =>
          refine ⟨f, rfl, by rw [← hq]; rw [Nat.pow_succ] at g2; exact Nat.div_lt_of_lt_mul (by rw [Nat.mul_comm]; exact g2), fun v' w' hst => ?_⟩
          rw [appGo, if_neg hlt, hc, hst, hq] at g1
          exact g1)
      clear ho hD hj hz hzn hc hq hr64 hDl
      go_wp2_with (at_builtin; refine wpList_dapp rfl (.tmp 10) (.tmp 14) rfl rfl base _ D rfl (HO.out.below ((Below.refl _ _).alloc (Nat.le_refl _) _)) ⟨wr.heap.size, 0, none⟩ 1 1 [z] rfl HR.out (by have := HDl.out; simp; omega) (by simp; omega) ?_; intro v' w' hrun hown hg)
      go_roundw
      case rel =>
        have hbl := (HJ.out.alloc hbase _).grown hg (by simp; omega) (fun k hk => HO.out.block k hk)
        obtain ⟨f', _, g2, g3⟩ := HGN.out
        exact ⟨D ++ [z], q, f', rfl, hown, ⟨g3 v' w' (appStep_of hrun), g2⟩, HE.out, HQ.out.2, hbl, Nat.le_trans HBW.out hbl.size⟩
      case measure => have := HQ.out.1; simp [intOf]; omega

theorem d_Put (n : Int) (h : I64 n) (w : World) : Calls Try.prog 12 #[.int .i64 n] w (DRes (appNum n (.slice none 0 0) w) w.heap.size w (encN n)) := by
  have HA := Lib.hid (d_appendNumber n h w w.heap.size (Nat.le_refl _) (.slice none 0 0) [] (bowns_nil _ _) (by simp))
  rw [List.nil_append] at HA
  generalize encN n = E at *
  generalize appNum n (.slice none 0 0) w = T at *
  clear h
  go_enter Try.func12, Try.ntmps12
  go_wp2_with fail
  refine HA.out.mono ?_; rintro e w1 ⟨rfl, hw, hown, hb⟩
  have HO := Lib.hid hown; have HB := Lib.hid hb; have HW := Lib.hid hw
  clear hown hb hw
  go_wp2_with fail
  go_ret
  exact ⟨rfl, HW.out, HO.out, HB.out⟩

end Go.Proofs.Ytabjhmblfeoiaaa
