import Derived.Test.YtmlcblnndihjoaaGreatMem
import Derived.ChangeKeysEq
import Derived.Laws.StructEq
import Derived.Test.YtmlcblnndihjoaaGreatStoE
import Derived.Test.YtmlcblnndihjoaaGreatReadA
import Derived.Test.YtmlcblnndihjoaaGreatReadC
import Derived.Test.YtmlcblnndihjoaaGreatJoinB
import Derived.Test.YtmlcblnndihjoaaGreatJoinA
import Derived.Test.YtmlcblnndihjoaaGreatJoinD
set_option linter.unusedSimpArgs false
set_option linter.unusedVariables false
namespace Go.Proofs.YtmlcblnndihjoaaGreat
open Go.RowKit

def aggX (T : Lat.St) : Value := .agg #[.int .i64 T.a.x, .int .i64 T.a.y, .int .i64 T.a.z, .int .i64 T.b.x, .int .i64 T.b.y, .int .i64 T.b.z, .int .i64 T.c.x, .int .i64 T.c.y, .int .i64 T.c.z]

theorem eqV (d : Nat) (a b c a' b' c' : Int) (w : World) : (Op.equalIn (d + 2) 55 (.agg #[.int .i64 a, .int .i64 b, .int .i64 c]) (.agg #[.int .i64 a', .int .i64 b', .int .i64 c'])).run Tryz.prog w = .ok (a == a' && b == b' && c == c') w := by
  obtain ⟨i, hi⟩ : ∃ i, Tryz.prog.info? 2 = some i := by
    have : (Tryz.prog.info? 2).isSome = true := by kernel_rfl
    exact Option.isSome_iff_exists.1 this
  have hu : Tryz.prog.underlying 55 = some (.array 3 2) := by kernel_rfl
  have hc : Tryz.prog.cellsOf 2 = 1 := by kernel_rfl
  have h2 : Tryz.prog.underlying 2 = some (.int .i64) := by kernel_rfl
  rw [run_equalIn_array w (d + 1) (t := 55) (e := 2) (n := 3) (i := i) _ _ hu hi, hc]
  have hp : ∀ (cs : Array Value) (k : Nat) (v : Value), cs[k]? = some v → (part 2 cs k).run Tryz.prog w = .ok v w := fun cs k v h => by
    simp [part, isAgg, run_underlying h2, h]
  show (Op.eqItems (d + 1) 2 1 _ _ [0, 1, 2]).run Tryz.prog w = _
  simp only [Op.eqItems, Sem.run_bind]
  rw [hp _ 0 (.int .i64 a) rfl]
  simp only [Result.andThen_ok]
  rw [hp _ 0 (.int .i64 a') rfl]
  simp only [Result.andThen_ok, run_equalIn_int w d 2 .i64 .i64 a a' h2]
  cases h : (a == a')
  · simp
  · simp only [Bool.not_true, Bool.false_eq_true, if_false, Sem.run_bind]
    rw [hp _ 1 (.int .i64 b) rfl]
    simp only [Result.andThen_ok]
    rw [hp _ 1 (.int .i64 b') rfl]
    simp only [Result.andThen_ok, run_equalIn_int w d 2 .i64 .i64 b b' h2]
    cases h' : (b == b')
    · simp
    · simp only [Bool.not_true, Bool.false_eq_true, if_false, Sem.run_bind]
      rw [hp _ 2 (.int .i64 c) rfl]
      simp only [Result.andThen_ok]
      rw [hp _ 2 (.int .i64 c') rfl]
      simp only [Result.andThen_ok, run_equalIn_int w d 2 .i64 .i64 c c' h2]
      cases h'' : (c == c') <;> simp

theorem eqA (d : Nat) (S T : Lat.St) (w : World) : (Op.equalIn (d + 3) 56 (aggX S) (aggX T)).run Tryz.prog w = .ok ((S.a.x == T.a.x && S.a.y == T.a.y && S.a.z == T.a.z) && (S.b.x == T.b.x && S.b.y == T.b.y && S.b.z == T.b.z) && (S.c.x == T.c.x && S.c.y == T.c.y && S.c.z == T.c.z)) w := by
  obtain ⟨i, hi⟩ : ∃ i, Tryz.prog.info? 55 = some i := by
    have : (Tryz.prog.info? 55).isSome = true := by kernel_rfl
    exact Option.isSome_iff_exists.1 this
  have hu : Tryz.prog.underlying 56 = some (.array 3 55) := by kernel_rfl
  have hc : Tryz.prog.cellsOf 55 = 3 := by kernel_rfl
  have h2 : Tryz.prog.underlying 55 = some (.array 3 2) := by kernel_rfl
  unfold aggX
  rw [run_equalIn_array w (d + 2) (t := 56) (e := 55) (n := 3) (i := i) _ _ hu hi, hc]
  have hs : ∀ w, (sizeOf 55).run Tryz.prog w = .ok 3 w := fun w => by rw [run_sizeOf w hi, hc]
  have hp : ∀ (cs : Array Value) (k : Nat) (v : Array Value), cs.extract k (k + 3) = v → (part 55 cs k).run Tryz.prog w = .ok (.agg v) w := fun cs k v h => by
    simp [part, isAgg, run_underlying h2, h, hs]
  show (Op.eqItems (d + 2) 55 3 _ _ [0, 1, 2]).run Tryz.prog w = _
  simp only [Op.eqItems, Sem.run_bind]
  rw [hp _ (0 * 3) #[.int .i64 S.a.x, .int .i64 S.a.y, .int .i64 S.a.z] rfl]
  simp only [Result.andThen_ok]
  rw [hp _ (0 * 3) #[.int .i64 T.a.x, .int .i64 T.a.y, .int .i64 T.a.z] rfl]
  simp only [Result.andThen_ok, eqV d]
  cases h : (S.a.x == T.a.x && S.a.y == T.a.y && S.a.z == T.a.z)
  · simp
  · simp only [Bool.not_true, Bool.false_eq_true, if_false, Sem.run_bind]
    rw [hp _ (1 * 3) #[.int .i64 S.b.x, .int .i64 S.b.y, .int .i64 S.b.z] rfl]
    simp only [Result.andThen_ok]
    rw [hp _ (1 * 3) #[.int .i64 T.b.x, .int .i64 T.b.y, .int .i64 T.b.z] rfl]
    simp only [Result.andThen_ok, eqV d]
    cases h' : (S.b.x == T.b.x && S.b.y == T.b.y && S.b.z == T.b.z)
    · simp
    · simp only [Bool.not_true, Bool.false_eq_true, if_false, Sem.run_bind]
      rw [hp _ (2 * 3) #[.int .i64 S.c.x, .int .i64 S.c.y, .int .i64 S.c.z] rfl]
      simp only [Result.andThen_ok]
      rw [hp _ (2 * 3) #[.int .i64 T.c.x, .int .i64 T.c.y, .int .i64 T.c.z] rfl]
      simp only [Result.andThen_ok, eqV d]
      cases h'' : (S.c.x == T.c.x && S.c.y == T.c.y && S.c.z == T.c.z) <;> simp

def sameS (S T : Lat.St) : Bool := (S.a.x == T.a.x && S.a.y == T.a.y && S.a.z == T.a.z) && (S.b.x == T.b.x && S.b.y == T.b.y && S.b.z == T.b.z) && (S.c.x == T.c.x && S.c.y == T.c.y && S.c.z == T.c.z)
theorem sameS_iff (S T : Lat.St) : sameS S T = true ↔ S = T := by
  obtain ⟨⟨a, b, c⟩, ⟨d, e, f⟩, ⟨g, h, i⟩⟩ := S
  obtain ⟨⟨a', b', c'⟩, ⟨d', e', f'⟩, ⟨g', h', i'⟩⟩ := T
  simp [sameS, and_assoc]

theorem eqSpan (S T : Lat.St) (w : World) : (binOp .eql 58 (aggX S) (aggX T)).run Tryz.prog w = .ok (.bool (sameS S T)) w := by
  have h := eqA 9996 S T w
  unfold aggX at h ⊢
  rw [run_eql_struct]
  have ht : Tryz.prog.underlying 58 = some (.struct (Tryz.prog.fieldsOf 58)) := by kernel_rfl
  obtain ⟨i, hi⟩ : ∃ i, Tryz.prog.info? 56 = some i := by
    have : (Tryz.prog.info? 56).isSome = true := by kernel_rfl
    exact Option.isSome_iff_exists.1 this
  have hc : Tryz.prog.cellsOf 56 = 9 := by kernel_rfl
  have h2 : Tryz.prog.underlying 56 = some (.array 3 55) := by kernel_rfl
  have hs : ∀ w, (sizeOf 56).run Tryz.prog w = .ok 9 w := fun w => by rw [run_sizeOf w hi, hc]
  rw [run_equalIn_struct w 9999 58 _ _ ht (by kernel_rfl)]
  have hf : (Tryz.prog.fieldsOf 58).toList.map (fun f => (f.name, f.type, f.offset)) = [("rows", 56, 0)] := by kernel_rfl
  generalize (Tryz.prog.fieldsOf 58).toList = fs at hf
  obtain ⟨f, rfl⟩ : ∃ f, fs = [f] := by
    cases fs with
    | nil => cases hf
    | cons f fs => cases fs with
      | nil => exact ⟨f, rfl⟩
      | cons g gs => simp at hf
  simp only [List.map_cons, List.map_nil, List.cons.injEq, and_true, Prod.mk.injEq] at hf
  obtain ⟨n1, n2, n3⟩ := hf
  have hp : ∀ (cs : Array Value), cs.size = 9 → (part 56 cs 0).run Tryz.prog w = .ok (.agg cs) w := fun cs hz => by
    have : cs.extract 0 (0 + 9) = cs := by rw [← hz]; simp
    simp [part, isAgg, run_underlying h2, hs]
    rw [← hz]; simp
  have hne : ¬ ("rows" = "_") := by decide
  simp only [Op.eqFields, n1, n2, n3, ne_eq, hne, not_false_eq_true, if_true, Sem.run_bind]
  rw [hp _ rfl]
  simp only [Result.andThen_ok]
  rw [hp _ rfl]
  simp only [Result.andThen_ok, h]
  unfold sameS
  generalize ((S.a.x == T.a.x && S.a.y == T.a.y && S.a.z == T.a.z) && (S.b.x == T.b.x && S.b.y == T.b.y && S.b.z == T.b.z) && (S.c.x == T.c.x && S.c.y == T.c.y && S.c.z == T.c.z)) = r
  cases r <;> simp
end Go.Proofs.YtmlcblnndihjoaaGreat

namespace Go.Proofs.YtmlcblnndihjoaaGreat
open Go.RowKit

/-- a node opened over such a disk has the lattice T, and f is the free slot -/
def Opens (n : Nat) (ss : List ByteArray) (T : Lat.St) (f : Bool) : Prop :=
  ∃ t, Loads ss t f ∧ ((t = ⟨#[]⟩ ∧ T = zeroS) ∨ DecOK t n T)

theorem Opens.like {n : Nat} {ss : List ByteArray} {T : Lat.St} {f : Bool} (h : Opens n ss T f) : DiskLike ss := by
  obtain ⟨t, h, _⟩ := h; exact h.like

/-- a write into a slot that does not count turns nothing -/
theorem Opens.put {n : Nat} {ss : List ByteArray} {T : Lat.St} {f : Bool} (h : Opens n ss T f) {i : Nat} (hi : i < 3) {d : ByteArray} (hd : d.size = 8) : Opens n (ss.set (slotAt f + i) d) T f := by
  obtain ⟨t, h, hT⟩ := h
  have hl := h.like
  refine ⟨t, ?_, hT⟩
  cases h with
  | none h1 h2 =>
    refine Loads.none (hl.set _ hd) ?_
    rw [at8_set (by rw [hl.1]; exact (slotAt_ne false hi hi).2.2), if_neg (fun e => (slotAt_ne false hi hi).2.1 e.symm)]; exact h2
  | some g t' h1 h2 h3 =>
    have hlt := (slotAt_ne (!g) hi hi).2.2
    have hat : ∀ j, j < 3 → at8 (ss.set (slotAt (!g) + i) d) (slotAt g + j) = at8 ss (slotAt g + j) := fun j hj => by
      rw [at8_set (by rw [hl.1]; exact hlt), if_neg (slotAt_ne g hj hi).1]
    refine Loads.some g t (hl.set _ hd) ?_ ?_
    · rw [at8_set (by rw [hl.1]; exact hlt), if_neg (fun e => (slotAt_ne (!g) hi hi).2.1 e.symm)]; exact h2
    · have e : slotN g (ss.set (slotAt (!g) + i) d) = slotN g ss := by
        unfold slotN
        have h0 := hat 0 (by omega)
        rw [Nat.add_zero] at h0
        rw [h0, hat 1 (by omega), hat 2 (by omega)]
      unfold textIn; rw [e]; exact h3

theorem putAll_cons (q : Nat × ByteArray) (ws : List (Nat × ByteArray)) (ss : List ByteArray) : putAll (q :: ws) ss = putAll ws (ss.set q.1 q.2) := rfl

/-- behind the first three writes at most: as before -/
theorem Opens.some_put {n : Nat} {ss : List ByteArray} {T : Lat.St} {f : Bool} (h : Opens n ss T f) {t : ByteArray} (ht : t.size ≤ 23) {k : Nat} (hk : k < 4) : Opens n (putAll ((saveF f t).take k) ss) T f := by
  have h1 := h.put (i := 0) (by omega) (chunk_size ht (i := 0) (by omega))
  rw [Nat.add_zero] at h1
  have h2 := h1.put (i := 1) (by omega) (chunk_size ht (i := 1) (by omega))
  have h3 := h2.put (i := 2) (by omega) (chunk_size ht (i := 2) (by omega))
  have : k = 0 ∨ k = 1 ∨ k = 2 ∨ k = 3 := by omega
  rcases this with rfl | rfl | rfl | rfl
  · exact h
  · exact h1
  · exact h2
  · exact h3

/-- behind all of them: the new one -/
theorem Opens.all_put {n : Nat} {ss : List ByteArray} {T : Lat.St} {f : Bool} (h : Opens n ss T f) {t : ByteArray} (ht : t.size ≤ 23) {T' : Lat.St} (hT : DecOK t n T') : Opens n (putAll (saveF f t) ss) T' (!f) := by
  have hl := h.like
  have l1 := hl.set (slotAt f) (chunk_size ht (i := 0) (by omega))
  have l2 := l1.set (slotAt f + 1) (chunk_size ht (i := 1) (by omega))
  have l3 := l2.set (slotAt f + 2) (chunk_size ht (i := 2) (by omega))
  have l4 := l3.set 0 (markOf_size f)
  have b0 : slotAt f < 8 ∧ slotAt f + 1 < 8 ∧ slotAt f + 2 < 8 ∧ 0 < slotAt f := by cases f <;> decide
  refine ⟨t, Loads.some f t l4 ?_ ?_, Or.inr hT⟩
  · show at8 ((((ss.set _ _).set _ _).set _ _).set _ _) _ = _
    rw [at8_set (by rw [l3.1]; omega), if_pos rfl]
  · have e0 : at8 (putAll (saveF f t) ss) (slotAt f) = chunk t 0 := by
      show at8 ((((ss.set _ _).set _ _).set _ _).set _ _) _ = _
      rw [at8_set (by rw [l3.1]; omega), if_neg (by omega), at8_set (by rw [l2.1]; omega), if_neg (by omega), at8_set (by rw [l1.1]; omega), if_neg (by omega), at8_set (by rw [hl.1]; omega), if_pos rfl]
    have e1 : at8 (putAll (saveF f t) ss) (slotAt f + 1) = chunk t 1 := by
      show at8 ((((ss.set _ _).set _ _).set _ _).set _ _) _ = _
      rw [at8_set (by rw [l3.1]; omega), if_neg (by omega), at8_set (by rw [l2.1]; omega), if_neg (by omega), at8_set (by rw [l1.1]; omega), if_pos rfl]
    have e2 : at8 (putAll (saveF f t) ss) (slotAt f + 2) = chunk t 2 := by
      show at8 ((((ss.set _ _).set _ _).set _ _).set _ _) _ = _
      rw [at8_set (by rw [l3.1]; omega), if_neg (by omega), at8_set (by rw [l2.1]; omega), if_pos rfl]
    have e : slotN f (putAll (saveF f t) ss) = fillN t := by
      unfold slotN; rw [e0, e1, e2]; exact chunk_all ht
    show textIn f (putAll (saveF f t) ss) = _
    unfold textIn
    rw [e, fillN_length ht]
    have g0 : (fillN t).getD 0 0 = (t.size : Int) := rfl
    rw [g0, if_pos (by omega)]
    have : ((fillN t).drop 1).take ((t.size : Int).toNat) = nums t := by
      show (nums t ++ List.replicate _ 0).take _ = _
      rw [Int.toNat_natCast, ← nums_length t, List.take_left]
    rw [this, str_nums]

theorem putAll_length (ws : List (Nat × ByteArray)) : ∀ (ss : List ByteArray), (putAll ws ss).length = ss.length := by
  induction ws with
  | nil => intro ss; rfl
  | cons q ws ih => intro ss; rw [putAll_cons, ih, List.length_set]

theorem blank_opens (n : Nat) : Opens n (List.replicate 8 mark0) zeroS false :=
  ⟨⟨#[]⟩, Loads.none ⟨by simp, fun s hs => by rw [List.mem_replicate] at hs; rw [hs.2]; rfl⟩ rfl, Or.inl ⟨rfl, rfl⟩⟩

theorem DecOK.size21 {s : ByteArray} {n : Nat} {T : Lat.St} (h : DecOK s n T) : s.size ≤ 21 := by
  have hs := h.shp
  have h1 := hs.len
  have h2 : n * (basisRows n T).length ≤ 3 * 3 := Nat.mul_le_mul hs.n3 (Nat.le_trans hs.rn hs.n3)
  rw [nums_length] at h1
  omega

end Go.Proofs.YtmlcblnndihjoaaGreat

namespace Go.Proofs.YtmlcblnndihjoaaGreat
open Go.RowKit

theorem retKept {R : Ending → World → Prop} {a : Act} {W : World} {p : Nat} {x0 x1 x2 x3 x4 x5 x6 x7 x8 : Value} {c : Value}
    (h : a.tmps[4]?.getD undef = .pointer (some ⟨p, 0, none⟩)) (h5 : a.tmps[5]?.getD undef = c) (k : Blk W p #[x0, x1, x2, x3, x4, x5, x6, x7, x8] 58) (hd : a.defers = [])
    (hR : R (.returned (.tuple #[.agg #[x0, x1, x2, x3, x4, x5, x6, x7, x8], c])) W) : bodyPost Tryz.prog Tryz.f95 R .ret a W := by
  obtain ⟨c0, c1, c2, c3, c4, c5, c6, c7, c8⟩ := k.nine
  refine bodyPost_ret (v := .tuple #[.agg #[x0, x1, x2, x3, x4, x5, x6, x7, x8], c]) ?_ hd hR
  simp [results, Tryz.results95, go_sem, h, h5, c0, c1, c2, c3, c4, c5, c6, c7, c8]

def KeptOK (n : Nat) (t : ByteArray) (T : Lat.St) : Prop := (t = ⟨#[]⟩ ∧ T = zeroS) ∨ DecOK t n T

def KeptEnd (n : Nat) (t : ByteArray) (e : Ending) : Prop :=
  (∃ T, KeptOK n t T ∧ e = .returned (.tuple #[aggS T, .bool true])) ∨ ((∀ T, ¬ KeptOK n t T) ∧ e = .returned (.tuple #[aggS zeroS, .bool false]))

theorem dec_ne {t : ByteArray} {n : Nat} {T : Lat.St} (h : DecOK t n T) : t ≠ ⟨#[]⟩ := fun e => by
  have := h.shp.len
  rw [nums_length, e] at this
  have h0 : (0 : Nat) = 3 + 2 * (n * (basisRows n T).length) := this
  omega

set_option maxRecDepth 100000 in
set_option maxHeartbeats 8000000 in
theorem spanKept_any (n : Nat) (t : ByteArray) (w : World) :
    Calls Tryz.prog 95 #[.int .i64 (n : Nat), .string t] w fun e w' => KeptEnd n t e ∧ Below w.heap.size w w' := by
  have HRD := hide0 (fun w0 => read_any t w0)
  have hi65 : (Tryz.prog.info? 58).map (·.size) = some 9 := by kernel_rfl
  have k0 := Blk.new w #[.int .i64 0, .int .i64 0, .int .i64 0, .int .i64 0, .int .i64 0, .int .i64 0, .int .i64 0, .int .i64 0, .int .i64 0] 58 rfl
  have hB0 : Below w.heap.size w (w.alloc (.cells #[.int .i64 0, .int .i64 0, .int .i64 0, .int .i64 0, .int .i64 0, .int .i64 0, .int .i64 0, .int .i64 0, .int .i64 0] 58)) := (Below.refl _ w).alloc (Nat.le_refl _) _
  by_cases h0 : t = ⟨#[]⟩
  · have HK : Hid (KeptEnd n t (.returned (.tuple #[aggS zeroS, .bool true]))) := Or.inl ⟨zeroS, Or.inl ⟨h0, rfl⟩, rfl⟩
    have hee : (t.toList == []) = true := by rw [h0, ByteArray.toList_eq]; rfl
    clear h0
    go_enter Tryz.func95, Tryz.ntmps95
    go_wp2
    refine retKept rfl rfl k0 rfl ⟨HK.out, hB0⟩
  · have hee : (t.toList == []) = false := by
      have := neB h0
      rw [ByteArray.toList_eq ⟨#[]⟩] at this
      exact this
    have H0 := hide0 h0
    clear h0
    go_enter Tryz.func95, Tryz.ntmps95
    go_wp2_with fail
    refine (HRD.out _).mono ?_
    rintro e w1 ⟨hR, hb1⟩
    have k1 := k0.below hb1 (by simp)
    have hB1 := hB0.trans (hb1.mono (by simp))
    have hs1 := hb1.size
    simp at hs1
    clear hb1 k0 hB0
    have HK1 := hide0 k1
    have HB1 := hide0 hB1
    rcases hR with ⟨m, T, hT, rfl⟩ | ⟨hN, rfl⟩
    · have kA := HK1.out.alloc (.cells #[.int .i64 T.a.x, .int .i64 T.a.y, .int .i64 T.a.z, .int .i64 T.b.x, .int .i64 T.b.y, .int .i64 T.b.z, .int .i64 T.c.x, .int .i64 T.c.y, .int .i64 T.c.z] 58)
      have kT := Blk.new w1 #[.int .i64 T.a.x, .int .i64 T.a.y, .int .i64 T.a.z, .int .i64 T.b.x, .int .i64 T.b.y, .int .i64 T.b.z, .int .i64 T.c.x, .int .i64 T.c.y, .int .i64 T.c.z] 58 rfl
      have hBA := HB1.out.alloc HB1.out.size (.cells #[.int .i64 T.a.x, .int .i64 T.a.y, .int .i64 T.a.z, .int .i64 T.b.x, .int .i64 T.b.y, .int .i64 T.b.z, .int .i64 T.c.x, .int .i64 T.c.y, .int .i64 T.c.z] 58)
      have hall : (#[.int .i64 T.a.x, .int .i64 T.a.y, .int .i64 T.a.z, .int .i64 T.b.x, .int .i64 T.b.y, .int .i64 T.b.z, .int .i64 T.c.x, .int .i64 T.c.y, .int .i64 T.c.z] : Array Value).all (·.oneCell') = true := by simp [Value.oneCell']
      have hal0 : (#[.int .i64 0, .int .i64 0, .int .i64 0, .int .i64 0, .int .i64 0, .int .i64 0, .int .i64 0, .int .i64 0, .int .i64 0] : Array Value).all (·.oneCell') = true := by simp [Value.oneCell']
      unfold aggS
      clear k1 hB1
      by_cases hm : m = n
      · have hmm : ((m : Int) != (n : Int)) = false := by simp; omega
        have HE : Hid (KeptEnd n t (.returned (.tuple #[aggS T, .bool true]))) := Or.inl ⟨T, Or.inr (hm ▸ hT), rfl⟩
        clear hT hm
        have HKA := hide0 kA
        have HBA := hide0 hBA
        go_wp2_with (refine wpList_store_row rfl 58 (.tmp 4) (.tmp 26) rfl w.heap.size #[.int .i64 T.a.x, .int .i64 T.a.y, .int .i64 T.a.z, .int .i64 T.b.x, .int .i64 T.b.y, .int .i64 T.b.z, .int .i64 T.c.x, .int .i64 T.c.y, .int .i64 T.c.z] rfl rfl 58 #[.int .i64 0, .int .i64 0, .int .i64 0, .int .i64 0, .int .i64 0, .int .i64 0, .int .i64 0, .int .i64 0, .int .i64 0] kA hi65 rfl hall ?_)
        refine retKept rfl rfl (HKA.out.setRow _) rfl ⟨HE.out, below_setRow HBA.out (Nat.le_refl _) _⟩
      · have hmm : ((m : Int) != (n : Int)) = true := by simp; omega
        have HE : Hid (KeptEnd n t (.returned (.tuple #[aggS zeroS, .bool false]))) := Or.inr ⟨fun T' hk => by
          rcases hk with ⟨h, _⟩ | h
          · exact H0.out h
          · exact hm (hT.one h).1, rfl⟩
        clear hT hm
        have HKA := hide0 kA
        have HBA := hide0 hBA
        go_wp2_with (refine wpList_store_row rfl 58 (.tmp 4) (.tmp 25) rfl w.heap.size #[.int .i64 0, .int .i64 0, .int .i64 0, .int .i64 0, .int .i64 0, .int .i64 0, .int .i64 0, .int .i64 0, .int .i64 0] rfl rfl 58 #[.int .i64 0, .int .i64 0, .int .i64 0, .int .i64 0, .int .i64 0, .int .i64 0, .int .i64 0, .int .i64 0, .int .i64 0] kA hi65 rfl hal0 ?_)
        refine retKept rfl rfl (HKA.out.setRow _) rfl ⟨HE.out, below_setRow HBA.out (Nat.le_refl _) _⟩
    · have kA := HK1.out.alloc (.cells #[.int .i64 0, .int .i64 0, .int .i64 0, .int .i64 0, .int .i64 0, .int .i64 0, .int .i64 0, .int .i64 0, .int .i64 0] 58)
      have hBA := HB1.out.alloc HB1.out.size (.cells #[.int .i64 0, .int .i64 0, .int .i64 0, .int .i64 0, .int .i64 0, .int .i64 0, .int .i64 0, .int .i64 0, .int .i64 0] 58)
      have hal0 : (#[.int .i64 0, .int .i64 0, .int .i64 0, .int .i64 0, .int .i64 0, .int .i64 0, .int .i64 0, .int .i64 0, .int .i64 0] : Array Value).all (·.oneCell') = true := by simp [Value.oneCell']
      have HE : Hid (KeptEnd n t (.returned (.tuple #[aggS zeroS, .bool false]))) := Or.inr ⟨fun T' hk => by
          rcases hk with ⟨h, _⟩ | h
          · exact H0.out h
          · exact hN _ _ h, rfl⟩
      clear k1 hB1 hN
      have HKA := hide0 kA
      have HBA := hide0 hBA
      unfold aggS zeroS
      go_wp2_with (refine wpList_store_row rfl 58 (.tmp 4) (.tmp 25) rfl w.heap.size #[.int .i64 0, .int .i64 0, .int .i64 0, .int .i64 0, .int .i64 0, .int .i64 0, .int .i64 0, .int .i64 0, .int .i64 0] rfl rfl 58 #[.int .i64 0, .int .i64 0, .int .i64 0, .int .i64 0, .int .i64 0, .int .i64 0, .int .i64 0, .int .i64 0, .int .i64 0] kA hi65 rfl hal0 ?_)
      refine retKept rfl rfl (HKA.out.setRow _) rfl ⟨HE.out, below_setRow HBA.out (Nat.le_refl _) _⟩

end Go.Proofs.YtmlcblnndihjoaaGreat

namespace Go.Proofs.YtmlcblnndihjoaaGreat
open Go.RowKit

/-- a node: its width, its lattice, the free slot -/
def nodeC (n : Nat) (T : Lat.St) (f : Bool) : Array Value := #[.int .i64 (n : Nat), .int .i64 T.a.x, .int .i64 T.a.y, .int .i64 T.a.z, .int .i64 T.b.x, .int .i64 T.b.y, .int .i64 T.b.z, .int .i64 T.c.x, .int .i64 T.c.y, .int .i64 T.c.z, .bool f]

def OpenEnd (n : Int) (ss : List ByteArray) (B : Nat) (w' : World) (e : Ending) : Prop :=
  (¬ (1 ≤ n ∧ n ≤ 3) ∧ e = .returned (.tuple #[.pointer none, .slice none 0 0, .int .i64 1])) ∨
  (∃ m : Nat, n = (m : Int) ∧ 1 ≤ m ∧ m ≤ 3 ∧ ((∃ T f x, Opens m ss T f ∧ e = .returned (.tuple #[.pointer (some ⟨x, 0, none⟩), .slice none 0 0, .int .i64 0]) ∧ Blk w' x (nodeC m T f) 133 ∧ B ≤ x) ∨
    ((∀ T f, ¬ Opens m ss T f) ∧ e = .returned (.tuple #[.pointer none, .slice none 0 0, .int .i64 5]))))

theorem open_wrong {n : Int} {ss : List ByteArray} {B : Nat} {w' : World} (h : ¬ (1 ≤ n ∧ n ≤ 3)) : OpenEnd n ss B w' (.returned (.tuple #[.pointer none, .slice none 0 0, .int .i64 1])) := Or.inl ⟨h, rfl⟩
theorem open_no {m : Nat} {ss : List ByteArray} {B : Nat} {w' : World} (h1 : 1 ≤ m) (h3 : m ≤ 3) (h : ∀ T f, ¬ Opens m ss T f) : OpenEnd m ss B w' (.returned (.tuple #[.pointer none, .slice none 0 0, .int .i64 5])) := Or.inr ⟨m, rfl, h1, h3, Or.inr ⟨h, rfl⟩⟩
theorem open_yes {m : Nat} {ss : List ByteArray} {B : Nat} {w' : World} {T : Lat.St} {f : Bool} {x : Nat} (h1 : 1 ≤ m) (h3 : m ≤ 3) (h : Opens m ss T f) (k : Blk w' x (nodeC m T f) 133) (hx : B ≤ x) : OpenEnd m ss B w' (.returned (.tuple #[.pointer (some ⟨x, 0, none⟩), .slice none 0 0, .int .i64 0])) := Or.inr ⟨m, rfl, h1, h3, Or.inl ⟨T, f, x, h, rfl, k, hx⟩⟩

set_option maxRecDepth 100000 in
set_option maxHeartbeats 8000000 in
theorem open_any (n : Int) (v : Value) (ss : List ByteArray) (w : World) (hv : StrsAt w v ss) :
    Calls Tryz.prog 81 #[.int .i64 n, v] w fun e w' => OpenEnd n ss w.heap.size w' e ∧ Below w.heap.size w w' := by
  have HW := hide0 (fun w0 => isWidth_any n w0)
  have HLO := hide0 (fun w0 (h : StrsAt w0 v ss) => load_any v ss w0 h)
  have HV := hide0 hv
  clear hv
  cases hw : (decide (1 ≤ n) && decide (n ≤ 3))
  · rw [hw] at HW
    have HN : Hid (¬ (1 ≤ n ∧ n ≤ 3)) := fun h => by
      have : (decide (1 ≤ n) && decide (n ≤ 3)) = true := by simp; exact h
      rw [this] at hw; cases hw
    clear hw
    go_enter Tryz.func81, Tryz.ntmps81
    go_wp2_with fail
    refine (HW.out _).mono ?_
    rintro e w' ⟨rfl, hq'⟩; replace hq' := hq'.symm; subst hq'
    go_wp2
    go_ret3
    exact ⟨open_wrong HN.out, Below.refl _ _⟩
  · rw [hw] at HW
    have hn := hw
    rw [Bool.and_eq_true, decide_eq_true_eq, decide_eq_true_eq] at hn
    obtain ⟨m, rfl⟩ : ∃ m : Nat, n = (m : Int) := ⟨n.toNat, by omega⟩
    have h1 : 1 ≤ m := by omega
    have h3 : m ≤ 3 := by omega
    have HSK := hide0 (fun t w0 => spanKept_any m t w0)
    clear hw hn
    go_enter Tryz.func81, Tryz.ntmps81
    go_wp2_with fail
    refine (HW.out _).mono ?_
    rintro e w' ⟨rfl, hq'⟩; replace hq' := hq'.symm; subst hq'
    go_wp2_with fail
    refine (HLO.out _ HV.out).mono ?_
    rintro e w1 ⟨hL, hb1⟩
    have HB1 := hide0 hb1
    have hs1 := hb1.size
    clear hb1
    rcases hL with ⟨t, f, hL, rfl⟩ | ⟨hN, rfl⟩
    · have HL := hide0 hL
      clear hL
      have kf0 := Blk.new w1 #[.bool f] 131 rfl
      go_wp2_with fail
      refine (HSK.out t _).mono ?_
      rintro e w2 ⟨hK, hb2⟩
      have kf := kf0.below hb2 (by simp)
      have hB2 := HB1.out.trans ((((Below.refl _ w1).alloc (Nat.le_refl _) _).trans (hb2.mono (by simp))).mono hs1)
      have hs2 := hB2.size
      have hs2' := hb2.size
      simp at hs2'
      have cf := kf.cell 0
      simp at cf
      have HB2 := hide0 hB2
      clear kf0 hb2 hB2
      rcases hK with ⟨T, hK, rfl⟩ | ⟨hN, rfl⟩
      · have HO : Hid (Opens m ss T f) := ⟨t, HL.out, hK⟩
        clear hK
        unfold aggS
        have kT := Blk.new w2 #[.int .i64 T.a.x, .int .i64 T.a.y, .int .i64 T.a.z, .int .i64 T.b.x, .int .i64 T.b.y, .int .i64 T.b.z, .int .i64 T.c.x, .int .i64 T.c.y, .int .i64 T.c.z] 58 rfl
        obtain ⟨s0, s1, s2, s3, s4, s5, s6, s7, s8⟩ := kT.nine
        have kA := (kf.alloc (.cells #[.int .i64 T.a.x, .int .i64 T.a.y, .int .i64 T.a.z, .int .i64 T.b.x, .int .i64 T.b.y, .int .i64 T.b.z, .int .i64 T.c.x, .int .i64 T.c.y, .int .i64 T.c.z] 58)).cell 0
        simp at kA
        clear kT
        go_wp2
        go_ret3
        refine ⟨open_yes h1 h3 HO.out (Blk.new _ _ _ (by simp)) (by omega), ?_⟩
        exact (HB2.out.alloc hs2 _).alloc (by simp; omega) _
      · have HN : Hid (∀ T f, ¬ Opens m ss T f) := fun T f' h => by
          obtain ⟨t', h1, h2⟩ := h
          have : t' = t := (h1.one HL.out).1
          subst this
          exact hN T h2
        clear hN
        unfold aggS zeroS
        go_wp2
        go_ret3
        exact ⟨open_no h1 h3 HN.out, HB2.out.alloc hs2 _⟩
    · have HN : Hid (∀ T f, ¬ Opens m ss T f) := fun T f h => by
        obtain ⟨t, h, _⟩ := h; exact hN t f h
      clear hN
      go_wp2
      go_ret3
      exact ⟨open_no h1 h3 HN.out, HB1.out.alloc hs1 _⟩

end Go.Proofs.YtmlcblnndihjoaaGreat

namespace Go.Proofs.YtmlcblnndihjoaaGreat
open Go.RowKit

theorem node_cells {w : World} {x n : Nat} {T : Lat.St} {f : Bool} (k : Blk w x (nodeC n T f) 133) :
    w.cell? ⟨x, 0, none⟩ = some (.int .i64 (n : Nat)) ∧ w.cell? ⟨x, 1, none⟩ = some (.int .i64 T.a.x) ∧ w.cell? ⟨x, 2, none⟩ = some (.int .i64 T.a.y) ∧ w.cell? ⟨x, 3, none⟩ = some (.int .i64 T.a.z) ∧ w.cell? ⟨x, 4, none⟩ = some (.int .i64 T.b.x) ∧ w.cell? ⟨x, 5, none⟩ = some (.int .i64 T.b.y) ∧ w.cell? ⟨x, 6, none⟩ = some (.int .i64 T.b.z) ∧ w.cell? ⟨x, 7, none⟩ = some (.int .i64 T.c.x) ∧ w.cell? ⟨x, 8, none⟩ = some (.int .i64 T.c.y) ∧ w.cell? ⟨x, 9, none⟩ = some (.int .i64 T.c.z) ∧ w.cell? ⟨x, 10, none⟩ = some (.bool f) :=
  ⟨k.cell 0, k.cell 1, k.cell 2, k.cell 3, k.cell 4, k.cell 5, k.cell 6, k.cell 7, k.cell 8, k.cell 9, k.cell 10⟩

set_option maxRecDepth 100000 in
set_option maxHeartbeats 8000000 in
theorem show_any (x n : Nat) (T : Lat.St) (f : Bool) (w : World) (k : Blk w x (nodeC n T f) 133) (h1 : 1 ≤ n) (h3 : n ≤ 3) (hf : FitsS T) :
    Calls Tryz.prog 67 #[.pointer (some ⟨x, 0, none⟩)] w fun e w' => e = .returned (.string (txt n T)) ∧ Below w.heap.size w w' := by
  have HTO := hide0 (fun w0 => textOf_any T n w0 h1 h3 hf)
  have HTX : Hid (strOfNums (textN n (basisRows n T)) = txt n T) := by show _ = _; unfold txt; rw [Int.toNat_natCast]
  obtain ⟨c0, c1, c2, c3, c4, c5, c6, c7, c8, c9, c10⟩ := node_cells k
  clear k hf
  go_enter Tryz.func67, Tryz.ntmps67
  go_upto_region 1 with fail
  refine wp_region_still_tail 8 (by kernel_rfl) (by kernel_rfl) ?_
  change wpStill _ _ (World.drew _) (fun a' => wpList _ _ _ _ a' (World.drew _)) _ _
  simp only [List.take_succ_cons, List.take_zero, List.drop_succ_cons, List.drop_zero]
  repeat still_step
  try refine wpStill_nil ?_
  go_wp2_with fail
  refine (HTO.out _).mono ?_
  rintro e w1 ⟨rfl, hb1⟩
  have hB : Below w.heap.size w w1 := (Below.refl _ w).drew.trans hb1
  rw [HTX.out]
  clear hb1
  go_wp2
  go_ret
  exact ⟨rfl, hB⟩

end Go.Proofs.YtmlcblnndihjoaaGreat

namespace Go.Proofs.YtmlcblnndihjoaaGreat
open Go.RowKit

/-- what 'grow' does to a node x of lattice T, given S -/
def GrowEnd (n : Nat) (T S : Lat.St) (f : Bool) (x B : Nat) (w' : World) (e : Ending) : Prop :=
  (¬ FitsS S ∧ e = .returned (.tuple #[.slice none 0 0, .int .i64 3]) ∧ Blk w' x (nodeC n T f) 133) ∨
  (FitsS S ∧ S = T ∧ e = .returned (.tuple #[.slice none 0 0, .int .i64 0]) ∧ Blk w' x (nodeC n T f) 133) ∨
  (FitsS S ∧ S ≠ T ∧ (∃ out, e = .returned (.tuple #[out, .int .i64 0]) ∧ WOwn w' B out (saveF f (txt n S))) ∧ Blk w' x (nodeC n S (!f)) 133)

theorem txt_size {n : Nat} {S : Lat.St} (h1 : 1 ≤ n) (h3 : n ≤ 3) (hs : Lat.Shape S) (hf : Flat n S) (hF : FitsS S) : (txt n S).size ≤ 23 := by
  have : DecOK (txt n S) n S := ⟨h1, h3, hs, hf, hF, rfl⟩
  have := this.size21
  omega

set_option maxRecDepth 100000 in
set_option maxHeartbeats 8000000 in
theorem grow_any (x n : Nat) (T S : Lat.St) (f : Bool) (w : World) (k : Blk w x (nodeC n T f) 133) (h1 : 1 ≤ n) (h3 : n ≤ 3) (hs : Lat.Shape S) (hfl : Flat n S) :
    Calls Tryz.prog 96 #[.pointer (some ⟨x, 0, none⟩), .agg #[.int .i64 S.a.x, .int .i64 S.a.y, .int .i64 S.a.z, .int .i64 S.b.x, .int .i64 S.b.y, .int .i64 S.b.z, .int .i64 S.c.x, .int .i64 S.c.y, .int .i64 S.c.z]] w
      fun e w' => GrowEnd n T S f x w.heap.size w' e ∧ Keeps [x] w w' := by
  have HFI := hide0 (fun w0 => fits_any S w0)
  have HTO : Hid (FitsS S → ∀ w0, _) := fun hf w0 => textOf_any S n w0 h1 h3 hf
  have HTX : Hid (strOfNums (textN n (basisRows n S)) = txt n S) := by show _ = _; unfold txt; rw [Int.toNat_natCast]
  have HTS : Hid (FitsS S → (txt n S).size ≤ 23) := fun hf => txt_size h1 h3 hs hfl hf
  have HOT := hide0 (fun w0 => slotOther_any f w0)
  have hxlt := k.lt
  have kS0 := Blk.new w #[.int .i64 S.a.x, .int .i64 S.a.y, .int .i64 S.a.z, .int .i64 S.b.x, .int .i64 S.b.y, .int .i64 S.b.z, .int .i64 S.c.x, .int .i64 S.c.y, .int .i64 S.c.z] 58 rfl
  have hBA : Below w.heap.size w (w.alloc (.cells #[.int .i64 S.a.x, .int .i64 S.a.y, .int .i64 S.a.z, .int .i64 S.b.x, .int .i64 S.b.y, .int .i64 S.b.z, .int .i64 S.c.x, .int .i64 S.c.y, .int .i64 S.c.z] 58)) := (Below.refl _ w).alloc (Nat.le_refl _) _
  have kx0 := k.below hBA hxlt
  clear hs hfl k
  go_enter Tryz.func96, Tryz.ntmps96
  go_wp2_with fail
  refine (HFI.out _).mono ?_
  rintro e w1 ⟨⟨ok, rfl, hok⟩, hb1⟩
  have kS1 := kS0.below hb1 (by simp)
  have kx1 := kx0.below hb1 (by simp; omega)
  have hB1 := hBA.trans (hb1.mono (by simp))
  have hs1 := hb1.size
  simp at hs1
  clear kS0 kx0 hb1 hBA
  cases ok
  · have HN : Hid (¬ FitsS S) := fun h => by have := hok.2 h; cases this
    have HK := hide0 kx1
    clear hok kS1 kx1
    go_wp2
    go_ret2
    exact ⟨Or.inl ⟨HN.out, rfl, HK.out⟩, keeps_of hB1 _⟩
  · have hF := hok.1 rfl
    have HF := hide0 hF
    obtain ⟨s0, s1, s2, s3, s4, s5, s6, s7, s8⟩ := kS1.nine
    obtain ⟨c0, c1, c2, c3, c4, c5, c6, c7, c8, c9, c10⟩ := node_cells kx1
    have HKS1 := hide0 kS1
    have HKX1 := hide0 kx1
    have HB1 := hide0 hB1
    clear hok kS1 kx1 hF hB1
    go_upto_region 3 with fail
    refine wp_region_still_tail 5 (by kernel_rfl) (by kernel_rfl) ?_
    change wpStill _ _ (World.drew _) (fun a' => wpList _ _ _ _ a' (World.drew _)) _ _
    simp only [List.take_succ_cons, List.take_zero, List.drop_succ_cons, List.drop_zero]
    repeat still_step
    try refine wpStill_nil ?_
    have heq := fun w0 => eqSpan S T w0
    unfold aggX at heq
    have HEQ := hide0 (sameS_iff S T)
    have hBd : Below w.heap.size w w1.drew := HB1.out.drew
    have kxd := HKX1.out.drew
    have ksd := HKS1.out.drew
    clear s0 s1 s2 s3 s4 s5 s6 s7 s8 c0 c1 c2 c3 c4 c5 c6 c7 c8 c9 c10
    generalize hwd : w1.drew = wd at *
    have hsd : w.heap.size + 1 ≤ wd.heap.size := by rw [← hwd]; exact hs1
    clear hwd
    cases hsame : sameS S T
    · have HNE : Hid (S ≠ T) := fun e => by have := HEQ.out.2 e; rw [hsame] at this; cases this
      rw [hsame] at heq
      clear hsame
      have HKXD := hide0 kxd
      have HKSD := hide0 ksd
      have HBD := hide0 hBd
      obtain ⟨s0, s1, s2, s3, s4, s5, s6, s7, s8⟩ := ksd.nine
      obtain ⟨c0, c1, c2, c3, c4, c5, c6, c7, c8, c9, c10⟩ := node_cells kxd
      clear kxd ksd hBd
      go_wp2_with fail
      refine wp_region_still_tail 5 (by kernel_rfl) (by kernel_rfl) ?_
      change wpStill _ _ (World.drew _) (fun a' => wpList _ _ _ _ a' (World.drew _)) _ _
      simp only [List.take_succ_cons, List.take_zero, List.drop_succ_cons, List.drop_zero]
      repeat still_step
      try refine wpStill_nil ?_
      go_wp2_with fail
      refine (HTO.out HF.out _).mono ?_
      rintro e w2 ⟨rfl, hb2⟩
      have kx2 := HKXD.out.drew.below hb2 HKXD.out.lt
      have ks2 := HKSD.out.drew.below hb2 HKSD.out.lt
      have hB2 := HBD.out.drew.trans (hb2.mono (by show w.heap.size ≤ wd.heap.size; omega))
      have hs2 := hb2.size
      have hs2' : wd.heap.size ≤ w2.heap.size := hs2
      rw [HTX.out]
      have HSV := hide0 (fun w0 => save_any f (txt n S) w0 (HTS.out HF.out))
      clear s0 s1 s2 s3 s4 s5 s6 s7 s8 c0 c1 c2 c3 c4 c5 c6 c7 c8 c9 c10 hb2 hs2
      obtain ⟨c0, c1, c2, c3, c4, c5, c6, c7, c8, c9, c10⟩ := node_cells kx2
      have HKX2 := hide0 kx2
      have HKS2 := hide0 ks2
      have HB2 := hide0 hB2
      generalize htx : txt n S = tx at *
      have HTX2 := hide0 htx
      clear kx2 ks2 hB2 htx c0 c1 c2 c3 c4 c5 c6 c7 c8 c9
      go_wp2_with fail
      refine (HSV.out _).mono ?_
      rintro e w3 ⟨⟨out, rfl, hO⟩, hb3⟩
      have kx3 := HKX2.out.below hb3 HKX2.out.lt
      have ks3 := HKS2.out.below hb3 HKS2.out.lt
      have hB3 := HB2.out.trans (hb3.mono (by omega))
      have hs3 := hb3.size
      have HO := hide0 hO
      obtain ⟨s0, s1, s2, s3, s4, s5, s6, s7, s8⟩ := ks3.nine
      obtain ⟨d0, d1, d2, d3, d4, d5, d6, d7, d8, d9, d10⟩ := node_cells kx3
      have f1 := kx3.frozen 1
      have f2 := kx3.frozen 2
      have f3 := kx3.frozen 3
      have f4 := kx3.frozen 4
      have f5 := kx3.frozen 5
      have f6 := kx3.frozen 6
      have f7 := kx3.frozen 7
      have f8 := kx3.frozen 8
      have f9 := kx3.frozen 9
      have kx4 := ((((((((kx3.set 1 (.int .i64 S.a.x)).set 2 (.int .i64 S.a.y)).set 3 (.int .i64 S.a.z)).set 4 (.int .i64 S.b.x)).set 5 (.int .i64 S.b.y)).set 6 (.int .i64 S.b.z)).set 7 (.int .i64 S.c.x)).set 8 (.int .i64 S.c.y)).set 9 (.int .i64 S.c.z)
      have e4 : (((((((((nodeC n T f).setIfInBounds 1 (.int .i64 S.a.x)).setIfInBounds 2 (.int .i64 S.a.y)).setIfInBounds 3 (.int .i64 S.a.z)).setIfInBounds 4 (.int .i64 S.b.x)).setIfInBounds 5 (.int .i64 S.b.y)).setIfInBounds 6 (.int .i64 S.b.z)).setIfInBounds 7 (.int .i64 S.c.x)).setIfInBounds 8 (.int .i64 S.c.y)).setIfInBounds 9 (.int .i64 S.c.z) = nodeC n S f := by simp [nodeC]
      rw [e4] at kx4
      have HKX4 := hide0 kx4
      have hxin : x ∈ [x] ∨ w.heap.size ≤ x := Or.inl (by simp)
      have HP4 := hide0 (((((((((((keeps_of hB3 [x]).set (p := ⟨x, 1, none⟩) hxin (.int .i64 S.a.x)).set (p := ⟨x, 2, none⟩) hxin (.int .i64 S.a.y)).set (p := ⟨x, 3, none⟩) hxin (.int .i64 S.a.z)).set (p := ⟨x, 4, none⟩) hxin (.int .i64 S.b.x)).set (p := ⟨x, 5, none⟩) hxin (.int .i64 S.b.y)).set (p := ⟨x, 6, none⟩) hxin (.int .i64 S.b.z)).set (p := ⟨x, 7, none⟩) hxin (.int .i64 S.c.x)).set (p := ⟨x, 8, none⟩) hxin (.int .i64 S.c.y)).set (p := ⟨x, 9, none⟩) hxin (.int .i64 S.c.z)))
      have hxin3 : x ∈ [x] ∨ w3.heap.size ≤ x := Or.inl (by simp)
      have HP34 := hide0 (((((((((((Keeps.refl [x] w3).set (p := ⟨x, 1, none⟩) hxin3 (.int .i64 S.a.x)).set (p := ⟨x, 2, none⟩) hxin3 (.int .i64 S.a.y)).set (p := ⟨x, 3, none⟩) hxin3 (.int .i64 S.a.z)).set (p := ⟨x, 4, none⟩) hxin3 (.int .i64 S.b.x)).set (p := ⟨x, 5, none⟩) hxin3 (.int .i64 S.b.y)).set (p := ⟨x, 6, none⟩) hxin3 (.int .i64 S.b.z)).set (p := ⟨x, 7, none⟩) hxin3 (.int .i64 S.c.x)).set (p := ⟨x, 8, none⟩) hxin3 (.int .i64 S.c.y)).set (p := ⟨x, 9, none⟩) hxin3 (.int .i64 S.c.z)))
      clear c10 hb3 kx3 ks3 hB3 kx4 hO e4
      go_upto_region 8 with fail
      clear s0 s1 s2 s3 s4 s5 s6 s7 s8 d0 d1 d2 d3 d4 d5 d6 d7 d8 d9 d10 f1 f2 f3 f4 f5 f6 f7 f8 f9
      generalize (((((((((w3.setCell ⟨x, 1, none⟩ (.int .i64 S.a.x)).setCell ⟨x, 2, none⟩ (.int .i64 S.a.y)).setCell ⟨x, 3, none⟩ (.int .i64 S.a.z)).setCell ⟨x, 4, none⟩ (.int .i64 S.b.x)).setCell ⟨x, 5, none⟩ (.int .i64 S.b.y)).setCell ⟨x, 6, none⟩ (.int .i64 S.b.z)).setCell ⟨x, 7, none⟩ (.int .i64 S.c.x)).setCell ⟨x, 8, none⟩ (.int .i64 S.c.y)).setCell ⟨x, 9, none⟩ (.int .i64 S.c.z)) = w4 at *
      obtain ⟨d0, d1, d2, d3, d4, d5, d6, d7, d8, d9, d10⟩ := node_cells HKX4.out
      clear d0 d1 d2 d3 d4 d5 d6 d7 d8 d9
      go_wp2_with fail
      refine (HOT.out _).mono ?_
      rintro e w5 ⟨rfl, hb5⟩
      have kx5 := HKX4.out.below hb5 HKX4.out.lt
      have f10 := kx5.frozen 10
      have d10 := (node_cells kx5).2.2.2.2.2.2.2.2.2.2
      have hs5 := hb5.size
      have HP5 := hide0 (HP4.out.step hb5)
      have HP35 := hide0 (HP34.out.step hb5)
      have HKX5 := hide0 kx5
      clear hb5 kx5
      go_wp2
      go_ret2
      have e5 : (nodeC n S f).setIfInBounds 10 (.bool (!f)) = nodeC n S (!f) := by simp [nodeC]
      have k6 := HKX5.out.set 10 (.bool (!f))
      rw [e5] at k6
      refine ⟨Or.inr (Or.inr ⟨HF.out, HNE.out, ⟨out, rfl, ?_⟩, k6⟩), HP5.out.set (p := ⟨x, 10, none⟩) (Or.inl (by simp)) _⟩
      rw [HTX2.out]
      refine ownsRow_base (owns_fresh (B := w2.heap.size) HO.out (Nat.le_refl _) (fun b hb hlt => ?_)) (by omega)
      exact (HP35.out.set (p := ⟨x, 10, none⟩) (Or.inl (by simp)) _).block b hlt (by simp; omega)
    · have HE : Hid (S = T) := HEQ.out.1 hsame
      rw [hsame] at heq
      clear hsame
      have HKXD := hide0 kxd
      clear kxd ksd
      go_wp2
      go_ret2
      exact ⟨Or.inr (Or.inl ⟨HF.out, HE.out, rfl, HKXD.out⟩), keeps_of hBd _⟩

end Go.Proofs.YtmlcblnndihjoaaGreat

namespace Go.Proofs.YtmlcblnndihjoaaGreat
open Go.RowKit

/-- a lattice that a node of width n can have -/
structure NodeOK (n : Nat) (T : Lat.St) : Prop where
  n1 : 1 ≤ n
  n3 : n ≤ 3
  shape : Lat.Shape T
  flat : Flat n T
  fits : FitsS T

theorem NodeOK.dec {n : Nat} {T : Lat.St} (h : NodeOK n T) : DecOK (txt n T) n T := ⟨h.n1, h.n3, h.shape, h.flat, h.fits, rfl⟩
theorem NodeOK.of {s : ByteArray} {n : Nat} {T : Lat.St} (h : DecOK s n T) : NodeOK n T := ⟨h.n1, h.n3, h.shape, h.flat, h.fits⟩
theorem NodeOK.canon {n : Nat} {T : Lat.St} (h : NodeOK n T) : Lat.CanonOf T (vecs (basisRows n T)) := h.dec.canon
theorem zle : Lat.Le 511 ⟨0, 0, 0⟩ := ⟨⟨by decide, by decide⟩, ⟨by decide, by decide⟩, ⟨by decide, by decide⟩⟩
theorem NodeOK.zero {n : Nat} (h1 : 1 ≤ n) (h3 : n ≤ 3) : NodeOK n zeroS := by
  have h : Lat.Shape zeroS := Lat.CanonOf.nil.shape
  exact ⟨h1, h3, h, ⟨fun _ => ⟨rfl, rfl, rfl⟩, fun _ => ⟨rfl, rfl⟩⟩, ⟨zle, zle, zle⟩⟩

/-- the sum that fits; else what there was -/
def GrowTo (T : Lat.St) (G : List Lat.V) (c : Int) (R : Lat.St) : Prop :=
  ∃ S, Lat.CanonOf S G ∧ ((FitsS S ∧ c = 0 ∧ R = S) ∨ (¬ FitsS S ∧ c = 3 ∧ R = T))

theorem GrowTo.one {T : Lat.St} {G G' : List Lat.V} {c c' : Int} {R R' : Lat.St} (h : GrowTo T G c R) (h' : GrowTo T G' c' R') (hG : ∀ v, Lat.InSpan G v ↔ Lat.InSpan G' v) : c = c' ∧ R = R' := by
  obtain ⟨S, hS, h⟩ := h
  obtain ⟨S', hS', h'⟩ := h'
  have e := hS.one hS' hG
  subst e
  rcases h with ⟨a, rfl, rfl⟩ | ⟨a, rfl, rfl⟩
  · rcases h' with ⟨b, rfl, rfl⟩ | ⟨b, rfl, rfl⟩
    · exact ⟨rfl, rfl⟩
    · exact absurd a b
  · rcases h' with ⟨b, rfl, rfl⟩ | ⟨b, rfl, rfl⟩
    · exact absurd b a
    · exact ⟨rfl, rfl⟩

/-- P10 -/
def AddTo (n : Nat) (T : Lat.St) (zs : List Int) (c : Int) (R : Lat.St) : Prop :=
  (goodS n zs = false ∧ c = 2 ∧ R = T) ∨ (goodS n zs = true ∧ GrowTo T (vecOf zs :: vecs (basisRows n T)) c R)
/-- P11 -/
def RecTo (n : Nat) (T : Lat.St) (s : ByteArray) (c : Int) (R : Lat.St) : Prop :=
  ((∀ m U, ¬ DecOK s m U) ∧ c = 4 ∧ R = T) ∨ (∃ m U, DecOK s m U ∧ m ≠ n ∧ c = 1 ∧ R = T) ∨ (∃ U, DecOK s n U ∧ GrowTo T (U.c :: U.b :: U.a :: vecs (basisRows n T)) c R)

theorem AddTo.one {n : Nat} {T : Lat.St} {zs : List Int} {c c' : Int} {R R' : Lat.St} (h : AddTo n T zs c R) (h' : AddTo n T zs c' R') : c = c' ∧ R = R' := by
  rcases h with ⟨a, rfl, rfl⟩ | ⟨a, b⟩
  · rcases h' with ⟨a', rfl, rfl⟩ | ⟨a', b'⟩
    · exact ⟨rfl, rfl⟩
    · rw [a] at a'; cases a'
  · rcases h' with ⟨a', rfl, rfl⟩ | ⟨a', b'⟩
    · rw [a] at a'; cases a'
    · exact b.one b' (fun _ => Iff.rfl)
theorem RecTo.one {n : Nat} {T : Lat.St} {s : ByteArray} {c c' : Int} {R R' : Lat.St} (h : RecTo n T s c R) (h' : RecTo n T s c' R') : c = c' ∧ R = R' := by
  rcases h with ⟨a, rfl, rfl⟩ | ⟨m, U, a, b, rfl, rfl⟩ | ⟨U, a, b⟩
  · rcases h' with ⟨a', rfl, rfl⟩ | ⟨m', U', a', b', rfl, rfl⟩ | ⟨U', a', b'⟩
    · exact ⟨rfl, rfl⟩
    · exact absurd a' (a _ _)
    · exact absurd a' (a _ _)
  · rcases h' with ⟨a', rfl, rfl⟩ | ⟨m', U', a', b', rfl, rfl⟩ | ⟨U', a', b'⟩
    · exact absurd a (a' _ _)
    · exact ⟨rfl, rfl⟩
    · exact absurd (a.one a').1 b
  · rcases h' with ⟨a', rfl, rfl⟩ | ⟨m', U', a', b', rfl, rfl⟩ | ⟨U', a', b'⟩
    · exact absurd a (a' _ _)
    · exact absurd (a'.one a).1 b'
    · obtain ⟨_, rfl⟩ := a.one a'
      exact b.one b' (fun _ => Iff.rfl)

theorem add_flat {n : Nat} {T S : Lat.St} {zs : List Int} (h : NodeOK n T) (hz : zs.length = n) (hS : Lat.CanonOf S (vecOf zs :: vecs (basisRows n T))) : Flat n S := by
  rw [← vecs_snoc] at hS
  refine flat_of hS (fun ys hy => ?_)
  rw [List.mem_append] at hy
  rcases hy with hy | hy
  · exact basisRows_each h.n3 ys hy
  · simp at hy; rw [hy]; exact hz
theorem rec_flat {n : Nat} {T U S : Lat.St} (h : NodeOK n T) (hU : NodeOK n U) (hS : Lat.CanonOf S (U.c :: U.b :: U.a :: vecs (basisRows n T))) : Flat n S := by
  refine flat_of (join_canon h.dec hU.dec hS) (fun ys hy => ?_)
  rw [List.mem_append] at hy
  rcases hy with hy | hy <;> exact basisRows_each h.n3 ys hy

theorem AddTo.ok {n : Nat} {T : Lat.St} {zs : List Int} {c : Int} {R : Lat.St} (h : NodeOK n T) (ha : AddTo n T zs c R) : NodeOK n R := by
  rcases ha with ⟨_, _, rfl⟩ | ⟨hz, S, hS, ⟨a, _, rfl⟩ | ⟨_, _, rfl⟩⟩
  · exact h
  · have hl : zs.length = n := by
      unfold goodS at hz; rw [Bool.and_eq_true, decide_eq_true_eq] at hz; omega
    exact ⟨h.n1, h.n3, hS.shape, add_flat h hl hS, a⟩
  · exact h
theorem RecTo.ok {n : Nat} {T : Lat.St} {s : ByteArray} {c : Int} {R : Lat.St} (h : NodeOK n T) (ha : RecTo n T s c R) : NodeOK n R := by
  rcases ha with ⟨_, _, rfl⟩ | ⟨m, U, _, _, _, rfl⟩ | ⟨U, hU, S, hS, ⟨a, _, rfl⟩ | ⟨_, _, rfl⟩⟩
  · exact h
  · exact h
  · exact ⟨h.n1, h.n3, hS.shape, rec_flat h (NodeOK.of hU) hS, a⟩
  · exact h

/-- what a call of a node hands back, and what it makes of the node -/
def CallEnd (Out : Int → Lat.St → Prop) (n : Nat) (T : Lat.St) (f : Bool) (x B : Nat) (w' : World) (e : Ending) : Prop :=
  ∃ c R, Out c R ∧ ((R = T ∧ e = .returned (.tuple #[.slice none 0 0, .int .i64 c]) ∧ Blk w' x (nodeC n T f) 133) ∨
    (R ≠ T ∧ c = 0 ∧ (∃ out, e = .returned (.tuple #[out, .int .i64 0]) ∧ WOwn w' B out (saveF f (txt n R))) ∧ Blk w' x (nodeC n R (!f)) 133))

theorem grow_call {Out : Int → Lat.St → Prop} {n : Nat} {T S : Lat.St} {f : Bool} {x B : Nat} {w' : World} {e : Ending} (h0 : FitsS S → Out 0 S) (h3 : ¬ FitsS S → Out 3 T) (h : GrowEnd n T S f x B w' e) : CallEnd Out n T f x B w' e := by
  rcases h with ⟨a, rfl, k⟩ | ⟨a, rfl, rfl, k⟩ | ⟨a, b, c, k⟩
  · exact ⟨3, T, h3 a, Or.inl ⟨rfl, rfl, k⟩⟩
  · exact ⟨0, S, h0 a, Or.inl ⟨rfl, rfl, k⟩⟩
  · exact ⟨0, S, h0 a, Or.inr ⟨b, rfl, c, k⟩⟩

theorem CallEnd.tuple {Out : Int → Lat.St → Prop} {n : Nat} {T : Lat.St} {f : Bool} {x B : Nat} {w' : World} {e : Ending} (h : CallEnd Out n T f x B w' e) : ∃ l c, e = .returned (.tuple #[l, .int .i64 c]) := by
  obtain ⟨c, R, _, ⟨_, h, _⟩ | ⟨_, _, ⟨out, h, _⟩, _⟩⟩ := h
  · exact ⟨_, _, h⟩
  · exact ⟨_, _, h⟩

theorem CallEnd.base {Out : Int → Lat.St → Prop} {n : Nat} {T : Lat.St} {f : Bool} {x B B' : Nat} {w' : World} {e : Ending} (h : CallEnd Out n T f x B w' e) (hB : B' ≤ B) : CallEnd Out n T f x B' w' e := by
  obtain ⟨c, R, ho, ⟨a, h, k⟩ | ⟨a, b, ⟨out, h, hw⟩, k⟩⟩ := h
  · exact ⟨c, R, ho, Or.inl ⟨a, h, k⟩⟩
  · exact ⟨c, R, ho, Or.inr ⟨a, b, ⟨out, h, ownsRow_base hw hB⟩, k⟩⟩

end Go.Proofs.YtmlcblnndihjoaaGreat

namespace Go.Proofs.YtmlcblnndihjoaaGreat
open Go.RowKit

theorem good4_le {n : Int} {zs : List Int} (h : goodS n zs = true) : Lat.Le 4 (vecOf zs) ∧ (zs.length : Int) = n := by
  unfold goodS at h
  rw [Bool.and_eq_true, decide_eq_true_eq] at h
  refine ⟨?_, h.1⟩
  have hall := h.2
  rw [List.all_eq_true] at hall
  have he : ∀ i, -4 ≤ zs.getD i 0 ∧ zs.getD i 0 ≤ 4 := fun i => by
    by_cases hi : i < zs.length
    · have := hall _ (List.getElem_mem hi)
      rw [Bool.and_eq_true, decide_eq_true_eq, decide_eq_true_eq] at this
      rw [List.getD_eq_getElem?_getD, List.getElem?_eq_getElem hi]
      exact ⟨this.2, this.1⟩
    · rw [List.getD_eq_getElem?_getD, List.getElem?_eq_none (by omega)]
      exact ⟨by decide, by decide⟩
  exact ⟨he 0, he 1, he 2⟩

theorem nset9 {w : World} {p : Nat} {x0 x1 x2 x3 x4 x5 x6 x7 x8 : Value} {t : TypeId} (k : Blk w p #[x0, x1, x2, x3, x4, x5, x6, x7, x8] t) (R : Lat.St) :
    Blk (((((((((w.setCell ⟨p, 0, none⟩ (.int .i64 R.a.x)).setCell ⟨p, 1, none⟩ (.int .i64 R.a.y)).setCell ⟨p, 2, none⟩ (.int .i64 R.a.z)).setCell ⟨p, 3, none⟩ (.int .i64 R.b.x)).setCell ⟨p, 4, none⟩ (.int .i64 R.b.y)).setCell ⟨p, 5, none⟩ (.int .i64 R.b.z)).setCell ⟨p, 6, none⟩ (.int .i64 R.c.x)).setCell ⟨p, 7, none⟩ (.int .i64 R.c.y)).setCell ⟨p, 8, none⟩ (.int .i64 R.c.z)) p #[.int .i64 R.a.x, .int .i64 R.a.y, .int .i64 R.a.z, .int .i64 R.b.x, .int .i64 R.b.y, .int .i64 R.b.z, .int .i64 R.c.x, .int .i64 R.c.y, .int .i64 R.c.z] t := by
  have := ((((((((k.set 0 (.int .i64 R.a.x)).set 1 (.int .i64 R.a.y)).set 2 (.int .i64 R.a.z)).set 3 (.int .i64 R.b.x)).set 4 (.int .i64 R.b.y)).set 5 (.int .i64 R.b.z)).set 6 (.int .i64 R.c.x)).set 7 (.int .i64 R.c.y)).set 8 (.int .i64 R.c.z)
  simpa using this
theorem nbelow_set9 {B : Nat} {a w : World} {p : Nat} (h : Below B a w) (hp : B ≤ p) (R : Lat.St) :
    Below B a (((((((((w.setCell ⟨p, 0, none⟩ (.int .i64 R.a.x)).setCell ⟨p, 1, none⟩ (.int .i64 R.a.y)).setCell ⟨p, 2, none⟩ (.int .i64 R.a.z)).setCell ⟨p, 3, none⟩ (.int .i64 R.b.x)).setCell ⟨p, 4, none⟩ (.int .i64 R.b.y)).setCell ⟨p, 5, none⟩ (.int .i64 R.b.z)).setCell ⟨p, 6, none⟩ (.int .i64 R.c.x)).setCell ⟨p, 7, none⟩ (.int .i64 R.c.y)).setCell ⟨p, 8, none⟩ (.int .i64 R.c.z)) :=
  ((((((((h.setCell (p := ⟨p, 0, none⟩) hp _).setCell (p := ⟨p, 1, none⟩) hp _).setCell (p := ⟨p, 2, none⟩) hp _).setCell (p := ⟨p, 3, none⟩) hp _).setCell (p := ⟨p, 4, none⟩) hp _).setCell (p := ⟨p, 5, none⟩) hp _).setCell (p := ⟨p, 6, none⟩) hp _).setCell (p := ⟨p, 7, none⟩) hp _).setCell (p := ⟨p, 8, none⟩) hp _

set_option maxRecDepth 100000 in
set_option maxHeartbeats 8000000 in
theorem add_any (x n : Nat) (T : Lat.St) (f : Bool) (v : Value) (zs : List Int) (w : World) (k : Blk w x (nodeC n T f) 133) (hok : NodeOK n T) (hv : IntsAt w v zs) :
    Calls Tryz.prog 85 #[.pointer (some ⟨x, 0, none⟩), v] w
      fun e w' => CallEnd (AddTo n T zs) n T f x w.heap.size w' e ∧ Keeps [x] w w' := by
  have h1 := hok.n1
  have h3 := hok.n3
  have HOK := hide0 hok
  have HIV : Hid (∀ w0, w0 = w → Calls Tryz.prog 43 #[.int .i64 (n : Nat), v, .int .i64 4] w0 fun e w' => e = .returned (.bool (goodS n zs)) ∧ w' = w0) := fun w0 e => by
    rw [e]; exact isVector4 n v zs w hv (by omega) (by omega)
  have hxlt := k.lt
  obtain ⟨c0, c1, c2, c3, c4, c5, c6, c7, c8, c9, c10⟩ := node_cells k
  have HK := hide0 k
  have HV := hide0 hv
  clear k hok
  cases hg : goodS n zs
  · have HG := hide0 hg
    rw [hg] at HIV
    clear hg hv
    go_enter Tryz.func85, Tryz.ntmps85
    go_wp2_with fail
    refine (HIV.out _ rfl).mono ?_
    rintro e w' ⟨rfl, hq'⟩; replace hq' := hq'.symm; subst hq'
    go_wp2
    go_ret2
    exact ⟨⟨2, T, Or.inl ⟨HG.out, rfl, rfl⟩, Or.inl ⟨rfl, rfl, HK.out⟩⟩, Keeps.refl _ _⟩
  · have HG := hide0 hg
    rw [hg] at HIV
    have hle := good4_le hg
    have hlen : zs.length = n := by omega
    have HVO := hide0 (vectorOf_any v zs w hv (by omega) (by omega))
    have HWI := hide0 (fun w0 => with_any T (vecs (basisRows n T)) (vecOf zs) w0 HOK.out.canon (le_vecs h1 h3 HOK.out.fits) (hle.1.mono (by decide)))
    have HLN := hide0 hlen
    clear hg hv hle
    go_enter Tryz.func85, Tryz.ntmps85
    go_wp2_with fail
    refine (HIV.out _ rfl).mono ?_
    rintro e w' ⟨rfl, hq'⟩; replace hq' := hq'.symm; subst hq'
    go_wp2_with fail
    refine HVO.out.mono ?_
    rintro e w1 ⟨rfl, hb1⟩
    have hs1 := hb1.size
    have kx1 := HK.out.below hb1 hxlt
    generalize hvv : vecOf zs = vv at *
    have HVV := hide0 hvv
    clear hvv
    have kv := Blk.new w1 #[.int .i64 vv.x, .int .i64 vv.y, .int .i64 vv.z] 55 rfl
    have kxA := kx1.alloc (.cells #[.int .i64 vv.x, .int .i64 vv.y, .int .i64 vv.z] 55)
    have hBA := hb1.alloc hs1 (.cells #[.int .i64 vv.x, .int .i64 vv.y, .int .i64 vv.z] 55)
    clear c0 c1 c2 c3 c4 c5 c6 c7 c8 c9 c10 hb1
    go_upto_region 4 with fail
    obtain ⟨c0, c1, c2, c3, c4, c5, c6, c7, c8, c9, c10⟩ := node_cells kxA
    obtain ⟨v0, v1, v2⟩ := kv.three
    have hsA : (w1.alloc (.cells #[.int .i64 vv.x, .int .i64 vv.y, .int .i64 vv.z] 55)).heap.size = w1.heap.size + 1 := by simp
    generalize hwA : w1.alloc (.cells #[.int .i64 vv.x, .int .i64 vv.y, .int .i64 vv.z] 55) = wA at *
    have HKXA := hide0 kxA
    have HKV := hide0 kv
    have HBA := hide0 hBA
    clear hwA kv kxA hBA kx1
    have hxA : x < wA.heap.size := by omega
    have hvA : w1.heap.size < wA.heap.size := by omega
    clear hsA
    have n1 : ¬ x = wA.heap.size := by omega
    have n2 : ¬ wA.heap.size = x := by omega
    have n3 : ¬ w1.heap.size = wA.heap.size := by omega
    have n4 : ¬ wA.heap.size = w1.heap.size := by omega
    go_cut [7] (fun u7 wc => ∃ p R, u7 = .pointer (some ⟨p, 0, none⟩) ∧ wA.heap.size ≤ p ∧ Lat.CanonOf R (vv :: vecs (basisRows n T)) ∧ Blk wc p #[.int .i64 R.a.x, .int .i64 R.a.y, .int .i64 R.a.z, .int .i64 R.b.x, .int .i64 R.b.y, .int .i64 R.b.z, .int .i64 R.c.x, .int .i64 R.c.y, .int .i64 R.c.z] 58 ∧ Below wA.heap.size wA wc)
    case first =>
      clear c0 c10
      go_region_held3 (fun w' => w'.cell? ⟨x, 1, none⟩ = some (.int .i64 T.a.x) ∧ w'.cell? ⟨x, 2, none⟩ = some (.int .i64 T.a.y) ∧ w'.cell? ⟨x, 3, none⟩ = some (.int .i64 T.a.z) ∧ w'.cell? ⟨x, 4, none⟩ = some (.int .i64 T.b.x) ∧ w'.cell? ⟨x, 5, none⟩ = some (.int .i64 T.b.y) ∧ w'.cell? ⟨x, 6, none⟩ = some (.int .i64 T.b.z) ∧ w'.cell? ⟨x, 7, none⟩ = some (.int .i64 T.c.x) ∧ w'.cell? ⟨x, 8, none⟩ = some (.int .i64 T.c.y) ∧ w'.cell? ⟨x, 9, none⟩ = some (.int .i64 T.c.z) ∧ w'.cell? ⟨w1.heap.size, 0, none⟩ = some (.int .i64 vv.x) ∧ w'.cell? ⟨w1.heap.size, 1, none⟩ = some (.int .i64 vv.y) ∧ w'.cell? ⟨w1.heap.size, 2, none⟩ = some (.int .i64 vv.z))
        (go_keep)
        ((go_at_call 78; refine (HWI.out _).mono ?_; rintro e w2 ⟨R, hR, rfl, hb2⟩; obtain ⟨hc1, hf1⟩ := bcell hb2; have hz1 := hb2.size; simp at hz1 hc1 hf1
          have m1 : ¬ x = w2.heap.size := by omega
          have m2 : ¬ w2.heap.size = x := by omega
          have m3 : ¬ w1.heap.size = w2.heap.size := by omega
          have m4 : ¬ w2.heap.size = w1.heap.size := by omega
          have kX : Blk w2 x (nodeC n T f) 133 := by first | exact HKXA.out.drew.below hb2 HKXA.out.lt | exact (HKXA.out.alloc _).drew.below hb2 (by simp; omega)
          have kV : Blk w2 w1.heap.size #[.int .i64 vv.x, .int .i64 vv.y, .int .i64 vv.z] 55 := by first | exact HKV.out.drew.below hb2 HKV.out.lt | exact (HKV.out.alloc _).drew.below hb2 (by simp; omega)
          obtain ⟨x0, x1, x2, x3, x4, x5, x6, x7, x8, x9, x10⟩ := node_cells kX
          obtain ⟨y0, y1, y2⟩ := kV.three))
      all_goals (go_wp2_with fail)
      all_goals go_meet
      · have q1 : Below wA.heap.size wA w2 := ⟨hb2.os, hb2.tape, hb2.output, hb2.size, hb2.block⟩
        exact ⟨_, R, rfl, hz1, hR, Blk.new w2 _ _ rfl, q1.alloc hz1 _⟩
      · have q1 := (Blk.new wA #[.int .i64 0, .int .i64 0, .int .i64 0, .int .i64 0, .int .i64 0, .int .i64 0, .int .i64 0, .int .i64 0, .int .i64 0] 58 rfl).drew.below hb2 (by simp)
        have q2 : Below wA.heap.size wA w2 := ((Below.refl wA.heap.size wA).alloc (Nat.le_refl _) _).drew.trans (hb2.mono (by simp))
        exact ⟨_, R, rfl, Nat.le_refl _, hR, nset9 q1 R, nbelow_set9 q2 (Nat.le_refl _) R⟩
    case rest =>
    rename World => wC
    obtain ⟨p, R, rfl, hp, hR, kR, hb2⟩ := hcut
    have kx2 := HKXA.out.below hb2 HKXA.out.lt
    have hB2 := HBA.out.trans (hb2.mono (by omega))
    have hs2 := hb2.size
    have hflat : Flat n R := add_flat HOK.out HLN.out (by rw [HVV.out]; exact hR)
    obtain ⟨s0, s1, s2, s3, s4, s5, s6, s7, s8⟩ := kR.nine
    have HGR := hide0 (grow_any x n T R f _ kx2 h1 h3 hR.shape hflat)
    have HR := hide0 hR
    have HB3 := hide0 hB2
    clear c0 c1 c2 c3 c4 c5 c6 c7 c8 c9 c10 v0 v1 v2 hb2 kx2 kR hR hB2 hflat
    go_wp2_with fail
    refine HGR.out.mono ?_
    rintro e w4 ⟨hE, hP⟩
    have hE2 : CallEnd (AddTo n T zs) n T f x w.heap.size w4 e := by
      refine (grow_call (Out := AddTo n T zs) (fun hf => Or.inr ⟨HG.out, R, by rw [HVV.out]; exact HR.out, Or.inl ⟨hf, rfl, rfl⟩⟩) (fun hf => Or.inr ⟨HG.out, R, by rw [HVV.out]; exact HR.out, Or.inr ⟨hf, rfl, rfl⟩⟩) hE).base (by omega)
    have HP4 := hide0 ((keeps_of HB3.out [x]).trans hP)
    have HE2 := hide0 hE2
    obtain ⟨l, c, rfl⟩ := hE2.tuple
    clear hE hE2 hP
    go_wp2
    go_ret2
    exact ⟨HE2.out, HP4.out⟩

end Go.Proofs.YtmlcblnndihjoaaGreat

namespace Go.Proofs.YtmlcblnndihjoaaGreat
open Go.RowKit

set_option maxRecDepth 100000 in
set_option maxHeartbeats 8000000 in
theorem receive_any (x n : Nat) (T : Lat.St) (f : Bool) (t : ByteArray) (w : World) (k : Blk w x (nodeC n T f) 133) (hok : NodeOK n T) :
    Calls Tryz.prog 88 #[.pointer (some ⟨x, 0, none⟩), .string t] w
      fun e w' => CallEnd (RecTo n T t) n T f x w.heap.size w' e ∧ Keeps [x] w w' := by
  have h1 := hok.n1
  have h3 := hok.n3
  have HOK := hide0 hok
  have HRD := hide0 (fun w0 => read_any t w0)
  have hxlt := k.lt
  have HK := hide0 k
  clear k hok
  go_enter Tryz.func88, Tryz.ntmps88
  go_wp2_with fail
  refine (HRD.out _).mono ?_
  rintro e w1 ⟨hR, hb1⟩
  have hs1 := hb1.size
  have kx1 := HK.out.below hb1 hxlt
  rcases hR with ⟨m, U, hU, rfl⟩ | ⟨hN, rfl⟩
  · unfold aggS
    have kU := Blk.new w1 #[.int .i64 U.a.x, .int .i64 U.a.y, .int .i64 U.a.z, .int .i64 U.b.x, .int .i64 U.b.y, .int .i64 U.b.z, .int .i64 U.c.x, .int .i64 U.c.y, .int .i64 U.c.z] 58 rfl
    have kxA := kx1.alloc (.cells #[.int .i64 U.a.x, .int .i64 U.a.y, .int .i64 U.a.z, .int .i64 U.b.x, .int .i64 U.b.y, .int .i64 U.b.z, .int .i64 U.c.x, .int .i64 U.c.y, .int .i64 U.c.z] 58)
    have hBA := hb1.alloc hs1 (.cells #[.int .i64 U.a.x, .int .i64 U.a.y, .int .i64 U.a.z, .int .i64 U.b.x, .int .i64 U.b.y, .int .i64 U.b.z, .int .i64 U.c.x, .int .i64 U.c.y, .int .i64 U.c.z] 58)
    obtain ⟨c0, c1, c2, c3, c4, c5, c6, c7, c8, c9, c10⟩ := node_cells kxA
    by_cases hm : m = n
    · subst hm
      have hmm : ((m : Int) != (m : Int)) = false := by simp
      have HU := hide0 hU
      have HJ := hide0 (fun w0 => spanJoin_any T U _ w0 HOK.out.canon (le_vecs h1 h3 HOK.out.fits) hU.fits)
      clear hU
      go_upto_region 6 with fail
      obtain ⟨v0, v1, v2, v3, v4, v5, v6, v7, v8⟩ := kU.nine
      have hsA : (w1.alloc (.cells #[.int .i64 U.a.x, .int .i64 U.a.y, .int .i64 U.a.z, .int .i64 U.b.x, .int .i64 U.b.y, .int .i64 U.b.z, .int .i64 U.c.x, .int .i64 U.c.y, .int .i64 U.c.z] 58)).heap.size = w1.heap.size + 1 := by simp
      generalize hwA : w1.alloc (.cells #[.int .i64 U.a.x, .int .i64 U.a.y, .int .i64 U.a.z, .int .i64 U.b.x, .int .i64 U.b.y, .int .i64 U.b.z, .int .i64 U.c.x, .int .i64 U.c.y, .int .i64 U.c.z] 58) = wA at *
      have HKXA := hide0 kxA
      have HKV := hide0 kU
      have HBA := hide0 hBA
      clear hwA kU kxA hBA kx1
      have hxA : x < wA.heap.size := by omega
      have hvA : w1.heap.size < wA.heap.size := by omega
      clear hsA
      have n1 : ¬ x = wA.heap.size := by omega
      have n2 : ¬ wA.heap.size = x := by omega
      have n3 : ¬ w1.heap.size = wA.heap.size := by omega
      have n4 : ¬ wA.heap.size = w1.heap.size := by omega
      go_cut [9] (fun u9 wc => ∃ p R, u9 = .pointer (some ⟨p, 0, none⟩) ∧ wA.heap.size ≤ p ∧ Lat.CanonOf R (U.c :: U.b :: U.a :: vecs (basisRows m T)) ∧ Blk wc p #[.int .i64 R.a.x, .int .i64 R.a.y, .int .i64 R.a.z, .int .i64 R.b.x, .int .i64 R.b.y, .int .i64 R.b.z, .int .i64 R.c.x, .int .i64 R.c.y, .int .i64 R.c.z] 58 ∧ Below wA.heap.size wA wc)
      case first =>
        clear c0 c10
        go_region_held3 (fun w' => w'.cell? ⟨x, 1, none⟩ = some (.int .i64 T.a.x) ∧ w'.cell? ⟨x, 2, none⟩ = some (.int .i64 T.a.y) ∧ w'.cell? ⟨x, 3, none⟩ = some (.int .i64 T.a.z) ∧ w'.cell? ⟨x, 4, none⟩ = some (.int .i64 T.b.x) ∧ w'.cell? ⟨x, 5, none⟩ = some (.int .i64 T.b.y) ∧ w'.cell? ⟨x, 6, none⟩ = some (.int .i64 T.b.z) ∧ w'.cell? ⟨x, 7, none⟩ = some (.int .i64 T.c.x) ∧ w'.cell? ⟨x, 8, none⟩ = some (.int .i64 T.c.y) ∧ w'.cell? ⟨x, 9, none⟩ = some (.int .i64 T.c.z) ∧ w'.cell? ⟨w1.heap.size, 0, none⟩ = some (.int .i64 U.a.x) ∧ w'.cell? ⟨w1.heap.size, 1, none⟩ = some (.int .i64 U.a.y) ∧ w'.cell? ⟨w1.heap.size, 2, none⟩ = some (.int .i64 U.a.z) ∧ w'.cell? ⟨w1.heap.size, 3, none⟩ = some (.int .i64 U.b.x) ∧ w'.cell? ⟨w1.heap.size, 4, none⟩ = some (.int .i64 U.b.y) ∧ w'.cell? ⟨w1.heap.size, 5, none⟩ = some (.int .i64 U.b.z) ∧ w'.cell? ⟨w1.heap.size, 6, none⟩ = some (.int .i64 U.c.x) ∧ w'.cell? ⟨w1.heap.size, 7, none⟩ = some (.int .i64 U.c.y) ∧ w'.cell? ⟨w1.heap.size, 8, none⟩ = some (.int .i64 U.c.z))
          (go_keep)
          ((go_at_call 53; refine (HJ.out _).mono ?_; rintro e w2 ⟨R, hR, rfl, hb2⟩; obtain ⟨hc1, hf1⟩ := bcell hb2; have hz1 := hb2.size; simp at hz1 hc1 hf1
            have m1 : ¬ x = w2.heap.size := by omega
            have m2 : ¬ w2.heap.size = x := by omega
            have m3 : ¬ w1.heap.size = w2.heap.size := by omega
            have m4 : ¬ w2.heap.size = w1.heap.size := by omega
            have kX : Blk w2 x (nodeC m T f) 133 := by first | exact HKXA.out.drew.below hb2 HKXA.out.lt | exact (HKXA.out.alloc _).drew.below hb2 (by simp; omega)
            have kV : Blk w2 w1.heap.size #[.int .i64 U.a.x, .int .i64 U.a.y, .int .i64 U.a.z, .int .i64 U.b.x, .int .i64 U.b.y, .int .i64 U.b.z, .int .i64 U.c.x, .int .i64 U.c.y, .int .i64 U.c.z] 58 := by first | exact HKV.out.drew.below hb2 HKV.out.lt | exact (HKV.out.alloc _).drew.below hb2 (by simp; omega)
            obtain ⟨x0, x1, x2, x3, x4, x5, x6, x7, x8, x9, x10⟩ := node_cells kX
            obtain ⟨y0, y1, y2, y3, y4, y5, y6, y7, y8⟩ := kV.nine))
        all_goals (go_wp2_with fail)
        all_goals go_meet
        · have q1 : Below wA.heap.size wA w2 := ⟨hb2.os, hb2.tape, hb2.output, hb2.size, hb2.block⟩
          exact ⟨_, R, rfl, hz1, hR, Blk.new w2 _ _ rfl, q1.alloc hz1 _⟩
        · have q1 := (Blk.new wA #[.int .i64 0, .int .i64 0, .int .i64 0, .int .i64 0, .int .i64 0, .int .i64 0, .int .i64 0, .int .i64 0, .int .i64 0] 58 rfl).drew.below hb2 (by simp)
          have q2 : Below wA.heap.size wA w2 := ((Below.refl wA.heap.size wA).alloc (Nat.le_refl _) _).drew.trans (hb2.mono (by simp))
          exact ⟨_, R, rfl, Nat.le_refl _, hR, nset9 q1 R, nbelow_set9 q2 (Nat.le_refl _) R⟩
      case rest =>
      rename World => wC
      obtain ⟨p, R, rfl, hp, hR, kR, hb2⟩ := hcut
      have kx2 := HKXA.out.below hb2 HKXA.out.lt
      have hB2 := HBA.out.trans (hb2.mono (by omega))
      have hs2 := hb2.size
      have hflat : Flat m R := rec_flat HOK.out (NodeOK.of HU.out) hR
      obtain ⟨s0, s1, s2, s3, s4, s5, s6, s7, s8⟩ := kR.nine
      have HGR := hide0 (grow_any x m T R f _ kx2 h1 h3 hR.shape hflat)
      have HR := hide0 hR
      have HB3 := hide0 hB2
      clear c0 c1 c2 c3 c4 c5 c6 c7 c8 c9 c10 v0 v1 v2 v3 v4 v5 v6 v7 v8 hb2 kx2 kR hR hB2 hflat
      go_wp2_with fail
      refine HGR.out.mono ?_
      rintro e w4 ⟨hE, hP⟩
      have hE2 : CallEnd (RecTo m T t) m T f x w.heap.size w4 e := by
        refine (grow_call (Out := RecTo m T t) (fun hf => Or.inr (Or.inr ⟨U, HU.out, R, HR.out, Or.inl ⟨hf, rfl, rfl⟩⟩)) (fun hf => Or.inr (Or.inr ⟨U, HU.out, R, HR.out, Or.inr ⟨hf, rfl, rfl⟩⟩)) hE).base (by omega)
      have HP4 := hide0 ((keeps_of HB3.out [x]).trans hP)
      have HE2 := hide0 hE2
      obtain ⟨l, c, rfl⟩ := hE2.tuple
      clear hE hE2 hP
      go_wp2
      go_ret2
      exact ⟨HE2.out, HP4.out⟩
    · have hmm : ((m : Int) != (n : Int)) = true := by simp; omega
      have HE : Hid (RecTo n T t 1 T) := Or.inr (Or.inl ⟨m, U, hU, hm, rfl, rfl⟩)
      have HKA := hide0 kxA
      have HBA := hide0 hBA
      clear hU hm kU kxA hBA kx1
      go_wp2
      go_ret2
      exact ⟨⟨1, T, HE.out, Or.inl ⟨rfl, rfl, HKA.out⟩⟩, keeps_of HBA.out _⟩
  · have HE : Hid (RecTo n T t 4 T) := Or.inl ⟨hN, rfl, rfl⟩
    have HKA := hide0 (kx1.alloc (.cells #[.int .i64 0, .int .i64 0, .int .i64 0, .int .i64 0, .int .i64 0, .int .i64 0, .int .i64 0, .int .i64 0, .int .i64 0] 58))
    have HBA := hide0 (hb1.alloc hs1 (.cells #[.int .i64 0, .int .i64 0, .int .i64 0, .int .i64 0, .int .i64 0, .int .i64 0, .int .i64 0, .int .i64 0, .int .i64 0] 58))
    clear hN kx1
    unfold aggS zeroS
    go_wp2
    go_ret2
    exact ⟨⟨4, T, HE.out, Or.inl ⟨rfl, rfl, HKA.out⟩⟩, keeps_of HBA.out _⟩

end Go.Proofs.YtmlcblnndihjoaaGreat
