import Derived.Test.YtmlcblnndihjoaaGreatList
import Derived.Laws.Tables
set_option linter.unusedVariables false
namespace Go.Proofs.YtmlcblnndihjoaaGreat
open Go.RowKit

/-- the spare room of a list of the call's own holds noughts -/
def Spare (w : World) (v z : Value) : Prop := ∀ g n cap, v = .slice (some ⟨g, 0, none⟩) n cap → ∀ j, n ≤ j → j < cap → w.cell? ⟨g, j, none⟩ = some z

theorem Spare.below {w w' : World} {v z : Value} (h : Spare w v z) (hb : Below w.heap.size w w') : Spare w' v z := fun g n cap e j h1 h2 =>
  cell_below hb (h g n cap e j h1 h2)

theorem zeroCells_one (z : Value) (n : Nat) : (Builtin.zeroCells #[z] n).toList = List.replicate n z := by
  apply List.ext_getElem?
  intro j
  simp only [Builtin.zeroCells, Array.toList_map, Array.toList_range, List.getElem?_map, List.getElem?_replicate]
  by_cases h : j < n
  · simp [h, Nat.mod_one]
  · simp [h]

theorem spare_tail {xs : List Value} {z : Value} {k j : Nat} (h1 : xs.length ≤ j) (h2 : j < xs.length + k) : (xs.toArray ++ Builtin.zeroCells #[z] k)[j]? = some z := by
  rw [← Array.getElem?_toList, Array.toList_append, zeroCells_one, List.getElem?_append_right (by simpa using h1), List.getElem?_replicate, if_pos (by simp; omega)]

theorem append_spare {P : Program} {w : World} {t ty : TypeId} {base : Nat} {e : TypeId} {i : TypeInfo} {z : Value} {bytes : Nat} (ht : P.underlying t = some (.slice e)) (hi : P.info? e = some i) (hz : i.zero = some z)
    (hsize : i.size = 1) (hby : i.bytes = bytes) (hzs : z.cells = #[z])
    {v : Value} {n : Nat} {xs : List Value} (hown : w.ownsRow base e 1 v n xs)
    {a : Addr} {m c : Nat} {news : List Value} (hl : news.length = m) (hnews : ∀ j u, news[j]? = some u → w.cell? (a.add j) = some u) (h1 : ∀ u ∈ news, u.oneCell' = true)
    (hm : 0 < m) (h63 : n + m ≤ maxLen) (hbytes : (n + m) * bytes ≤ 140737488355328) {v' : Value} {w' : World}
    (hr : (Builtin.append_ #[t, t] ty #[v, .slice (some a) m c]).run P w = .ok v' w') (hs : Spare w v z) : Spare w' v' z := by
  subst hby
  have hsmall : n + m ≤ 9223372036854775807 := by simp only [maxLen] at h63; omega
  have hxl : xs.length = n := by have := hown.1; omega
  have newCell : ∀ (o : Obj) (j : Nat) (cs : Array Value), o = .cells cs e → (w.drew.alloc o).cell? ⟨w.heap.size, j, none⟩ = cs[j]? := by
    intro o j cs ho
    subst ho
    have : (w.drew.alloc (.cells cs e)).heap[w.heap.size]? = some (.cells cs e (0, 0)) := heap_alloc_new w.drew _
    unfold World.cell?; rw [this]; simp
  rcases hown.2 with ⟨rfl, rfl⟩ | ⟨g, cap, cur, rfl, hbg, hg, hnc, hcm, hcs, htake⟩
  · have hr2 := run_append_nil (P := P) w t ty e i z ht hi hz a m c news (by rw [hsize]; omega) hnews (by omega) (by omega) (by have hb := hbytes; simp only [Nat.zero_add] at hb; omega)
    rw [hr2] at hr
    injection hr with e1 e2
    subst e1; subst e2
    intro g' n' cap' he j h1 h2
    injection he with he1 he2 he3
    injection he1 with he1; injection he1 with he1
    subst he1; subst he2; subst he3
    rw [newCell _ j _ rfl, hzs]
    exact spare_tail (by omega) (by rw [hl]; omega)
  · by_cases hroom : n + m ≤ cap
    · have hfit : n * i.size + news.length ≤ cur.size := by rw [hl, hcs, hsize]; omega
      have hr2 := run_append_room (P := P) w t ty e i ht hi g n cap cur hg a m c news (by rw [hsize]; omega) hnews h1 hroom hfit
      rw [hr2] at hr
      injection hr with e1 e2
      subst e1; subst e2
      intro g' n' cap' he j h1 h2
      injection he with he1 he2 he3
      injection he1 with he1; injection he1 with he1
      subst he1; subst he2; subst he3
      rw [cell_setRow_same _ _ _ _ _ _ _ hg]
      have := hs g n cap rfl j (by omega) h2
      rw [hsize, Nat.mul_one, hl]
      have hc : w.cell? ⟨g, j, none⟩ = cur[j]? := by simp [World.cell?, hg]
      rw [hc] at this
      rw [List.getElem?_toArray, List.getElem?_append_right (by simp; omega), List.getElem?_drop]
      have hn' : min n cur.size = n := by omega
      simp only [List.length_append, List.length_take, Array.length_toList, hl, hn']
      rw [show n + m + (j - (n + m)) = j by omega, Array.getElem?_toList]
      exact this
    · have holds : ∀ j u, xs[j]? = some u → w.cell? ((⟨g, 0, none⟩ : Addr).add j) = some u := hown.cells (g := g) rfl
      have hr2 := run_append_grow (P := P) w t ty e i z ht hi hz ⟨g, 0, none⟩ n cap xs (by rw [hsize]; omega) holds a m c news (by rw [hsize]; omega) hnews (by omega) (by omega) (growslice_fits (by omega) hbytes)
      rw [hr2] at hr
      injection hr with e1 e2
      subst e1; subst e2
      intro g' n' cap' he j h1 h2
      injection he with he1 he2 he3
      injection he1 with he1; injection he1 with he1
      subst he1; subst he2; subst he3
      rw [newCell _ j _ rfl, hzs]
      have e3 : xs.toArray ++ news.toArray = (xs ++ news).toArray := by simp
      rw [e3]
      exact spare_tail (by simp; omega) (by simp; omega)

/-- append, and what the spare room holds -/
theorem wpList_append_z {P : Program} (w : World) {ops : Array Oper} {rest : List Oper} {o : Oper} {a : Act} {Q : Exit → Act → World → Prop} (hgd : o.guard = none) (s x : Operand) (t : TypeId)
    (ho : o.op = .call { callee := .builtin .append, args := #[s, x], argTypes := #[t, t] })
    (base : Nat) (e : TypeId) (i : TypeInfo) (z : Value) (bytes : Nat) (ht : P.underlying t = some (.slice e)) (hi : P.info? e = some i) (hz : i.zero = some z)
    (hsize : i.size = 1) (hby : i.bytes = bytes) (hzs : z.cells = #[z])
    (v : Value) (n : Nat) (xs : List Value) (hs : a.eval s = v) (hown : w.ownsRow base e 1 v n xs) (hsp : Spare w v z)
    (ad : Addr) (m c : Nat) (news : List Value) (hx : a.eval x = .slice (some ad) m c) (hl : news.length = m) (hnews : ∀ j u, news[j]? = some u → w.cell? (ad.add j) = some u) (h1 : ∀ u ∈ news, u.oneCell' = true)
    (hm : 0 < m) (h63 : n + m ≤ maxLen) (hbytes : (n + m) * bytes ≤ 140737488355328) (hbase : base ≤ w.heap.size) (H : Nat) (hH : w.heap.size = H)
    (h : ∀ g cap w', w'.ownsRow base e 1 (.slice (some ⟨g, 0, none⟩) (n + m) cap) (n + m) (xs ++ news) → w.grownBy w' v.ownBlock → (v.ownBlock = some g ∨ g = H) → g < w'.heap.size → Spare w' (.slice (some ⟨g, 0, none⟩) (n + m) cap) z → wpList P ops Q rest (a.put o.dst (.slice (some ⟨g, 0, none⟩) (n + m) cap)) w') :
    wpList P ops Q (o :: rest) a w := by
  refine wpList_plain hgd fun K hK => ?_
  obtain ⟨g, cap, w', hr, h2, h3, h4, h5⟩ := run_append_lies (P := P) w t o.type base e i z 1 bytes ht hi hz hsize hby (by rw [hzs]; rfl) (by omega) v n xs hown ad m c news (by omega) hnews h1 hm h63 hbytes hbase H hH
  have h6 := append_spare ht hi hz hsize hby hzs hown hl hnews h1 hm h63 hbytes hr hsp
  unfold Oper.wp execOp
  simp only [ho, resolve, invoke, builtin, Sem.run_bind, Sem.run_pure, Result.andThen_ok, List.map_toArray, List.map_cons, List.map_nil, hs, hx, hr]
  exact hK _ _ (h g cap w' h2 h3 h4 h5 h6)

end Go.Proofs.YtmlcblnndihjoaaGreat
