import Derived.Test.YtdjicplcognddaaTextA
set_option linter.unusedSimpArgs false
set_option linter.unusedVariables false
namespace Go.Proofs.Ytdjicplcognddaa
open Go.RowKit

def entN (z : Int) : List Int := [(z + 512) / 256, (z + 512) % 256]
def rowN (zs : List Int) : List Int := zs.flatMap entN
def bodyN (n : Nat) (zss : List (List Int)) : List Int := [(n : Int), (zss.length : Int)] ++ zss.flatMap rowN
def textN (n : Nat) (zss : List (List Int)) : List Int := bodyN n zss ++ [checkN (bodyN n zss)]
def partN (n : Nat) (zss : List (List Int)) (i j : Nat) : List Int := [(n : Int), (zss.length : Int)] ++ (zss.take i).flatMap rowN ++ ((zss.getD i []).take j).flatMap entN

theorem partN_zero (n : Nat) (zss : List (List Int)) : partN n zss 0 0 = [(n : Int), (zss.length : Int)] := by simp [partN]

theorem partN_step (n : Nat) (zss : List (List Int)) (i j : Nat) (h : j < (zss.getD i []).length) : partN n zss i (j + 1) = partN n zss i j ++ entN ((zss.getD i []).getD j 0) := by
  unfold partN
  generalize zss.getD i [] = zs at *
  rw [List.take_succ_eq_append_getElem h, List.flatMap_append, ← List.append_assoc]
  congr 1
  simp [List.getD_eq_getElem?_getD, List.getElem?_eq_getElem h]

theorem partN_row (n : Nat) (zss : List (List Int)) (i : Nat) (h : i < zss.length) : partN n zss i (zss.getD i []).length = partN n zss (i + 1) 0 := by
  unfold partN
  rw [List.take_length, List.take_zero, List.take_succ_eq_append_getElem h, List.flatMap_append]
  have : zss.getD i [] = zss[i] := by simp [List.getD_eq_getElem?_getD, h]
  rw [this]
  simp [rowN]

theorem partN_all (n : Nat) (zss : List (List Int)) : partN n zss zss.length 0 = bodyN n zss := by
  unfold partN bodyN; simp

theorem flat_len {α : Type} (l : List α) (f : α → List Int) (k : Nat) (h : ∀ x ∈ l, (f x).length ≤ k) : (l.flatMap f).length ≤ l.length * k := by
  induction l with
  | nil => simp
  | cons x l ih =>
    simp only [List.flatMap_cons, List.length_append, List.length_cons]
    have h1 := h x (by simp)
    have h2 := ih (fun y hy => h y (by simp [hy]))
    rw [Nat.succ_mul]; omega

theorem rowN_len (zs : List Int) : (rowN zs).length ≤ zs.length * 2 := flat_len zs entN 2 (fun x _ => by simp [entN])

/-- rows such as a text is made of -/
structure Fine (n : Nat) (zss : List (List Int)) : Prop where
  n1 : 1 ≤ n
  n3 : n ≤ 3
  len : zss.length ≤ 6
  each : ∀ zs ∈ zss, zs.length = n
  ents : ∀ zs ∈ zss, ∀ z ∈ zs, -511 ≤ z ∧ z ≤ 511

theorem Fine.body_len {n : Nat} {zss : List (List Int)} (h : Fine n zss) : (bodyN n zss).length ≤ 100 := by
  have := flat_len zss rowN 6 (fun zs hz => by have := rowN_len zs; have := h.each zs hz; have := h.n3; omega)
  have hl := h.len
  unfold bodyN
  simp only [List.length_append, List.length_cons, List.length_nil]
  omega

theorem entN_range {z : Int} (h : -511 ≤ z ∧ z ≤ 511) : ∀ x ∈ entN z, 0 ≤ x ∧ x ≤ 255 := by
  intro x hx
  simp only [entN, List.mem_cons, List.not_mem_nil, or_false] at hx
  rcases hx with rfl | rfl <;> omega

theorem Fine.body_range {n : Nat} {zss : List (List Int)} (h : Fine n zss) : ∀ x ∈ bodyN n zss, 0 ≤ x ∧ x ≤ 255 := by
  intro x hx
  unfold bodyN at hx
  rw [List.mem_append] at hx
  rcases hx with hx | hx
  · have := h.n3; have := h.len
    simp only [List.mem_cons, List.not_mem_nil, or_false] at hx
    rcases hx with rfl | rfl <;> omega
  · rw [List.mem_flatMap] at hx
    obtain ⟨zs, hz, hx⟩ := hx
    unfold rowN at hx
    rw [List.mem_flatMap] at hx
    obtain ⟨z, hz', hx⟩ := hx
    exact entN_range (h.ents zs hz z hz') x hx

theorem Fine.row {n : Nat} {zss : List (List Int)} (h : Fine n zss) {i : Nat} (hi : i < zss.length) : (zss.getD i []).length = n ∧ ∀ z ∈ zss.getD i [], -511 ≤ z ∧ z ≤ 511 := by
  have e : zss.getD i [] = zss[i] := by simp [List.getD_eq_getElem?_getD, hi]
  rw [e]
  exact ⟨h.each _ (List.getElem_mem hi), h.ents _ (List.getElem_mem hi)⟩

theorem Fine.entry {n : Nat} {zss : List (List Int)} (h : Fine n zss) {i j : Nat} (hi : i < zss.length) (hj : j < n) : -511 ≤ (zss.getD i []).getD j 0 ∧ (zss.getD i []).getD j 0 ≤ 511 := by
  have hr := h.row hi
  generalize zss.getD i [] = zs at *
  have hj' : j < zs.length := by omega
  rw [List.getD_eq_getElem?_getD, List.getElem?_eq_getElem hj']
  exact hr.2 _ (List.getElem_mem hj')

theorem RowsAt.cellAt {w : World} {a : Option Addr} {m cap : Nat} {zss : List (List Int)} (h : RowsAt w (.slice a m cap) zss) {i : Nat} (hi : i < zss.length) :
    ∃ b o x, a = some ⟨b, o, none⟩ ∧ w.cell? ⟨b, o + i, none⟩ = some x ∧ IntsAt w x (zss.getD i []) := by
  rcases h with ⟨rfl, _⟩ | ⟨_, b, o, cap', e, hc⟩
  · simp at hi
  · injection e with e1 e2 e3
    obtain ⟨x, h1, h2⟩ := hc i hi
    exact ⟨b, o, x, e1, h1, h2⟩

theorem conv2 (w0 : World) (x y : Int) : (convert 93 9 (.slice (some ⟨w0.heap.size, 0, none⟩) 2 2)).run Try.prog (w0.alloc (.cells #[.int .u8 x, .int .u8 y] 5)) = .ok (.string (strOfNums [x, y])) (w0.alloc (.cells #[.int .u8 x, .int .u8 y] 5)) :=
  run_convert_bytes_arg (P := Try.prog) _ 93 5 (by kernel_rfl) (by kernel_rfl) w0.heap.size 0 2 2 [x, y] rfl (fun i hi => by
    rw [(Blk.new w0 #[Value.int .u8 x, .int .u8 y] 5 rfl).cell]
    have : i = 0 ∨ i = 1 := by omega
    rcases this with rfl | rfl <;> rfl) 9 (by kernel_rfl)
theorem conv1 (w0 : World) (x : Int) : (convert 93 9 (.slice (some ⟨w0.heap.size, 0, none⟩) 1 1)).run Try.prog (w0.alloc (.cells #[.int .u8 x] 5)) = .ok (.string (strOfNums [x])) (w0.alloc (.cells #[.int .u8 x] 5)) :=
  run_convert_bytes_arg (P := Try.prog) _ 93 5 (by kernel_rfl) (by kernel_rfl) w0.heap.size 0 1 1 [x] rfl (fun i hi => by
    rw [(Blk.new w0 #[Value.int .u8 x] 5 rfl).cell]
    have : i = 0 := by omega
    subst this; rfl) 9 (by kernel_rfl)

theorem strAdd (xs ys : List Int) (h : xs.length + ys.length ≤ 1000) (w : World) : (binOp .add 9 (.string (strOfNums xs)) (.string (strOfNums ys))).run Try.prog w = .ok (.string (strOfNums (xs ++ ys))) w := by
  rw [binOp_string_add, ← str_append]
  have h1 := strOfNums_size xs
  have h2 := strOfNums_size ys
  have h3 : ((strOfNums xs).size : Int) + ((strOfNums ys).size : Int) ≤ 9223372036854775807 := by omega
  simp [Op.stringOp, h1, h2]
  omega

theorem partN_len {n : Nat} {zss : List (List Int)} (h : Fine n zss) {i j : Nat} (hi : i < zss.length) : (partN n zss i j).length ≤ 100 := by
  have h1 := flat_len (zss.take i) rowN 6 (fun zs hz => by have := rowN_len zs; have := h.each zs (List.mem_of_mem_take hz); have := h.n3; omega)
  have h2 := flat_len ((zss.getD i []).take j) entN 2 (fun x _ => by simp [entN])
  have h3 := (h.row hi).1
  have h4 := h.n3
  have h5 := h.len
  have h6 : (zss.take i).length ≤ 6 := by rw [List.length_take]; omega
  have h7 : ((zss.getD i []).take j).length ≤ 3 := by rw [List.length_take]; omega
  unfold partN
  simp only [List.length_append, List.length_cons, List.length_nil]
  omega

set_option maxRecDepth 100000 in
set_option maxHeartbeats 2000000 in
theorem rtext_any (n : Nat) (v : Value) (zss : List (List Int)) (w : World) (hv : RowsAt w v zss) (hf : Fine n zss) :
    Calls Try.prog 54 #[.int .i64 n, v] w fun e w' => e = .returned (.string (strOfNums (textN n zss))) ∧ Below w.heap.size w w' := by
  have HV := hide0 hv
  have HF := hide0 hf
  obtain ⟨a, cap, rfl⟩ := hv.slice
  have hn1 := hf.n1
  have hn3 := hf.n3
  have hl6 := hf.len
  clear hv hf
  generalize hr : zss.length = r at *
  have HR := hide0 hr
  have H0 : Hid (partN n zss 0 0 = [(n : Int), (r : Int)]) := by rw [← hr]; exact partN_zero n zss
  clear hr
  have hc2 := conv2
  have hc1 := conv1
  have hnb : (n : Int) ≤ 3 := by omega
  have hrb : (r : Int) ≤ 6 := by omega
  go_enter Try.func54, Try.ntmps54
  go_wp2
  go_loopg [5, 6, 7, 8] (r) (fun mm s i u7 u8 wr => ∃ k : Nat, i = .int .i64 k ∧ k + mm = r ∧ s = .string (strOfNums (partN n zss k 0)) ∧ Below w.heap.size w wr)
  case atStart => exact ⟨0, rfl, by omega, by rw [H0.out], by go_grown⟩
  case round =>
    obtain ⟨k, rfl, hk, rfl, hB⟩ := hrel
    have HB := hide0 hB
    have hsB := hB.size
    clear hB
    by_cases hlt : k < r
    · have hlt' : (k : Int) < (r : Int) := by omega
      obtain ⟨g0, hg0⟩ : ∃ g0, g0 = gk := ⟨_, rfl⟩
      have HP : Hid (partN n zss k n = partN n zss (k + 1) 0) := by
        have := partN_row n zss k (by rw [HR.out]; exact hlt)
        rw [(HF.out.row (by rw [HR.out]; exact hlt)).1] at this
        exact this
      go_wp2
      go_loopg [5, 7, 8] (n) (fun mm s j u8 wr => ∃ q : Nat, j = .int .i64 q ∧ q + mm = n ∧ s = .string (strOfNums (partN n zss k q)) ∧ Below w.heap.size w wr)
      case atStart => exact ⟨0, rfl, by omega, rfl, HB.out⟩
      case round =>
      clear HB
      obtain ⟨q, rfl, hq, rfl, hB⟩ := hrel
      have HB := hide0 hB
      have hsB2 := hB.size
      by_cases hql : q < n
      · have hql' : (q : Int) < (n : Int) := by omega
        obtain ⟨b, o, x, rfl, h1, h2⟩ := (HV.out.below hB).cellAt (i := k) (by rw [HR.out]; exact hlt)
        have hrow := (HF.out.row (i := k) (by rw [HR.out]; exact hlt)).1
        obtain ⟨a2, c2, rfl⟩ := h2.slice
        rw [hrow] at h1
        obtain ⟨b2, o2, ea, h3⟩ := IntsAt.cellAt (m := _) (cap := _) h2 (i := q) (by rw [hrow]; exact hql)
        subst ea
        have hst := partN_step n zss k q (by rw [hrow]; exact hql)
        have hen := HF.out.entry (i := k) (j := q) (by rw [HR.out]; exact hlt) hql
        generalize (zss.getD k []).getD q 0 = z at *
        have HST := hide0 hst
        obtain ⟨he0, he1⟩ := hen
        have hpl := partN_len HF.out (i := k) (j := q) (by rw [HR.out]; exact hlt)
        generalize partN n zss k q = xs at *
        have hsx : (strOfNums xs).size ≤ 100 := by rw [strOfNums_size]; exact hpl
        have hse : (strOfNums (entN z)).size = 2 := by rw [strOfNums_size]; rfl
        have hgt : ¬ (strOfNums xs).size + (strOfNums (entN z)).size > 9223372036854775807 := by omega
        clear hst hB h2
        have HTW := hide0 (fun w0 => two_any (z + 511 + 1) w0 (by omega) (by omega))
        have hen2 : [(z + 511 + 1) / 256, (z + 511 + 1) % 256] = entN z := by rw [show z + 511 + 1 = z + 512 by omega]; rfl
        rw [hen2] at HTW
        clear hen2
        generalize entN z = es at *
        go_wp2_with fail
        refine (HTW.out _).mono ?_
        rintro e w1 ⟨rfl, hb1⟩
        have HB1 := hide0 (HB.out.trans (hb1.mono hsB2))
        clear hb1
        go_wp2
        go_roundg (gk - 1)
        case measure => omega
        case rel => exact ⟨q + 1, by go_num, by omega, by rw [HST.out, str_append], HB1.out⟩
      · have hd2 : decide ((q : Int) < (n : Int)) = false := by simp; omega
        have hqe : q = n := by omega
        rw [hqe, HP.out]
        clear hB hqe
        go_wp2
        go_roundg (g0 - 1)
        case measure => omega
        case rel => exact ⟨k + 1, by go_num, by omega, rfl, HB.out⟩
    · have hd : decide ((k : Int) < (r : Int)) = false := by simp; omega
      have hke : k = r := by omega
      have hall := partN_all n zss
      rw [HR.out] at hall
      rw [hke, hall]
      have hbl := HF.out.body_len
      have HBR := hide0 (nums_str _ HF.out.body_range)
      have HCK := hide0 (fun w0 => check_any (strOfNums (bodyN n zss)) w0 (by rw [strOfNums_size]; omega))
      have HTX : Hid (textN n zss = bodyN n zss ++ [checkN (bodyN n zss)]) := rfl
      have hcr := checkN_range (bodyN n zss)
      clear hall hke hk
      generalize bodyN n zss = xs at *
      rw [HBR.out] at HCK
      go_wp2_with fail
      refine (HCK.out _).mono ?_
      rintro e w' ⟨rfl, hq'⟩; subst hq'
      generalize checkN xs = cc at *
      obtain ⟨hc0, hc250⟩ := hcr
      have hsx : (strOfNums xs).size ≤ 100 := by rw [strOfNums_size]; exact hbl
      have hse : (strOfNums [cc]).size = 1 := by rw [strOfNums_size]; rfl
      have hgt : ¬ (strOfNums xs).size + (strOfNums [cc]).size > 9223372036854775807 := by omega
      have HST := hide0 (str_append xs [cc])
      go_wp2
      go_ret
      exact ⟨by rw [HTX.out, ← HST.out]; rfl, HB.out.alloc hsB _⟩

end Go.Proofs.Ytdjicplcognddaa
