import Derived.Test.YtmlcblnndihjoaaGreatWorM
import Derived.Deep.RegionLaw
import Derived.Deep.Slices
import Derived.ChangeSame
set_option linter.unusedSimpArgs false
set_option linter.unusedVariables false
namespace Go.Proofs.YtmlcblnndihjoaaGreat
open Go.RowKit

/-- the messages under way -/
def BagOwn (w : World) (B : Nat) (v : Value) (bag : List ByteArray) : Prop := w.ownsRow B 9 1 v bag.length (bag.map Value.string)

theorem BagOwn.at {w : World} {B : Nat} {v : Value} {bag : List ByteArray} (h : BagOwn w B v bag) : StrsAt w v bag := by
  by_cases h0 : 0 < bag.length
  · obtain ⟨g, cap, hv, _, hc⟩ := ownsRow_cell h h0
    refine Or.inr ⟨h0, g, 0, cap, hv, fun i hi => ?_⟩
    rw [Nat.zero_add, hc i hi, List.getElem?_map, List.getElem?_eq_getElem hi, List.getD_eq_getElem?_getD, List.getElem?_eq_getElem hi]; rfl
  · have e : bag = [] := List.length_eq_zero_iff.1 (by omega)
    subst e
    rcases h.2 with ⟨h1, _⟩ | ⟨g, cap, cur, h1, _⟩
    · exact Or.inl ⟨rfl, _, _, h1⟩
    · exact Or.inl ⟨rfl, _, cap, h1⟩

def worldC (n : Int) (nv vv bv : Value) : Array Value := #[.int .i64 n, nv, vv, bv]

def DropPost (B W : Nat) (n : Int) (nv vv : Value) (len : Nat) (w w' : World) : Prop :=
  ∃ bv' bag', Blk w' W (worldC n nv vv bv') 95 ∧ BagOwn w' w.heap.size bv' bag' ∧ bag'.length ≤ len ∧ Keeps [W] w w'

set_option maxRecDepth 100000 in
set_option maxHeartbeats 8000000 in
theorem drop_any (B W : Nat) (n : Int) (nv vv bv : Value) (bag : List ByteArray) (k len : Nat) (w : World) (hW : Blk w W (worldC n nv vv bv) 95) (hb : BagOwn w B bv bag) (hl : bag.length ≤ 8) (hk : k < bag.length) (hlen : bag.length = len + 1) :
    Calls Tryz.prog 64 #[.pointer (some ⟨W, 0, none⟩), .int .i64 (k : Nat)] w fun e w' => (∃ v, e = .returned v) ∧ DropPost B W n nv vv len w w' := by
  obtain ⟨i0, hi, hz0, hz1, hz2⟩ := info_parts tinfo9
  have HI : Hid (Tryz.prog.info? 9 = some i0 ∧ i0.zero = some (.string ⟨#[]⟩) ∧ i0.size = 1 ∧ i0.bytes = 16) := ⟨hi, hz0, hz1, hz2⟩
  have HAT := hide0 hb.at
  have HW := hide0 hW
  obtain ⟨ba, bc, rfl⟩ := hb.at.slice
  have c3 : w.cell? ⟨W, 3, none⟩ = some (.slice ba bag.length bc) := hW.cell 3
  have hWlt := hW.lt
  clear hi hz0 hz1 hz2 hb hW
  generalize hbl : bag.length = bl at *
  have HBL := hide0 hbl
  clear hbl
  go_enter Tryz.func64, Tryz.ntmps64
  go_wp2
  go_loopg [4, 5] (bl) (fun mm made i wr => ∃ j : Nat, i = .int .i64 (j : Nat) ∧ j + mm = bl ∧ (∃ L, BagOwn wr w.heap.size made L ∧ L.length = j - (if k < j then 1 else 0)) ∧ Below w.heap.size w wr)
  case atStart => exact ⟨0, rfl, by omega, ⟨[], World.ownsRow_nil _ _ _ _, by simp⟩, Below.refl _ _⟩
  case round =>
    obtain ⟨j, rfl, hj, ⟨L, hL, hLl⟩, hB⟩ := hrel
    have HB := hide0 hB
    have HL := hide0 hL
    have c3' := cell_below hB c3
    have hsB := hB.size
    by_cases hlt : j < bl
    · have hlt' : (j : Int) < (bl : Int) := by omega
      by_cases hjk : j = k
      · have hne : ((j : Int) != (k : Int)) = false := by simp; omega
        have HJK := hide0 hjk
        obtain ⟨la, lc, rfl⟩ := hL.at.slice
        clear hL hB hjk
        go_wp2
        go_roundg (gk - 1)
        case measure => omega
        case rel => exact ⟨j + 1, by go_num, by omega, ⟨L, HL.out, by rw [hLl]; have := HJK.out; split <;> split <;> omega⟩, HB.out⟩
      · have hne : ((j : Int) != (k : Int)) = true := by simp; omega
        have HJK := hide0 hjk
        obtain ⟨b, o, rfl, hc⟩ := (HAT.out.below hB).cellAt (i := j) (by rw [HBL.out]; exact hlt)
        obtain ⟨hi, hz0, hz1, hz2⟩ := HI.out
        generalize bag.getD j ⟨#[]⟩ = d at *
        unfold BagOwn at hL
        have hLb : L.length ≤ 8 := by rw [hLl]; omega
        have HLL := hide0 hLl
        generalize hll : L.length = ll at *
        have HLN := hide0 hll
        clear hB hjk hll hLl
        go_wp2_with (at_builtin; refine wpList_append_lies _ rfl (.tmp 18) (.tmp 26) 93 rfl w.heap.size 9 i0 (.string ⟨#[]⟩) 1 16 Tryz.underlying93 hi hz0 hz1 hz2 rfl (by decide) _ _ _ rfl (World.ownsRow.alloc hL _) ⟨wr.heap.size, 0, none⟩ 1 1 [.string d] rfl rfl (World.news_of_block (cs := #[.string d]) (t := 9) (fr := (0, 0)) (Blk.new _ _ _ rfl)) (by intro u hu; simp at hu; subst hu; rfl) (by omega) (by unfold maxLen; omega) (by omega) (by simp; omega) _ rfl ?_; intro g2 cap2 w3 hown1 hgrow hat hglt)
        go_roundg (gk - 1)
        case measure => omega
        case rel =>
          refine ⟨j + 1, by go_num, by omega, ⟨L ++ [d], ?_, ?_⟩, ((HB.out).alloc (by omega) _).grown hgrow (by simp; omega) (fun j hj => by have := (HL.out.lt j hj).1; omega)⟩
          · unfold BagOwn
            rw [List.length_append, List.map_append, HLN.out]; exact hown1
          · rw [List.length_append, HLN.out, HLL.out]
            have := HJK.out
            simp
            split <;> split <;> omega
    · have hd : decide ((j : Int) < (bl : Int)) = false := by simp; omega
      obtain ⟨la, lc, rfl⟩ := hL.at.slice
      have kW := HW.out.below hB HW.out.lt
      have f3 := kW.frozen 3
      have HKW := hide0 kW
      have hLL : L.length ≤ len := by rw [hLl]; split <;> omega
      have HLL := hide0 hLL
      generalize hll : L.length = ll at *
      have HLN := hide0 hll
      clear hL hB kW hLl hll
      go_wp2
      go_end0
      refine ⟨⟨_, rfl⟩, .slice la ll lc, L, ?_, ?_, by rw [HLN.out]; exact HLL.out, (keeps_of HB.out [W]).set (p := ⟨W, 3, none⟩) (Or.inl (by simp)) _⟩
      · have := HKW.out.set 3 (.slice la ll lc)
        unfold worldC at this ⊢
        simpa using this
      · refine owns_fresh (B := w.heap.size) HL.out (Nat.le_refl _) (fun b hb hlt => ?_)
        exact ((Keeps.refl [W] wr).set (p := ⟨W, 3, none⟩) (Or.inl (by simp)) (.slice la ll lc)).block b hlt (by simp; omega)

theorem BagOwn.keep {N : List Nat} {w w' : World} {B : Nat} {v : Value} {bag : List ByteArray} (h : BagOwn w B v bag) (k : Keeps N w w') (hn : ∀ b, v.ownBlock = some b → b ∉ N) : BagOwn w' B v bag :=
  owns_block h (fun b hb ho => k.block b hb (hn b ho))

def SendPost (B W : Nat) (n : Int) (nv vv bv : Value) (w w' : World) : Prop :=
  ∃ bv' bag', Blk w' W (worldC n nv vv bv') 95 ∧ BagOwn w' B bv' bag' ∧ bag'.length ≤ 8 ∧ Keeps (W :: ownB bv) w w' ∧ (∀ b, bv'.ownBlock = some b → bv.ownBlock = some b ∨ w.heap.size ≤ b)

/-- the last part of send: one more in the bag -/
theorem bag_ne {w : World} {B W : Nat} {v : Value} {bag : List ByteArray} {cs : Array Value} (h : BagOwn w B v bag) (k : Blk w W cs 95) : ∀ b, v.ownBlock = some b → b ≠ W := fun b hb e => by
  rcases h.2 with ⟨h1, _⟩ | ⟨g, cap, cur, h1, _, h3, _⟩
  · rw [h1] at hb; cases hb
  · rw [h1] at hb
    have e2 : g = b := Option.some.inj hb
    subst e2
    exact blk_ne (w := w) (a := g) (b := W) h3 k (by decide) e

set_option maxRecDepth 100000 in
set_option maxHeartbeats 8000000 in
theorem send_any (B W : Nat) (n : Int) (nv vv bv : Value) (bag : List ByteArray) (s : ByteArray) (w : World) (hW : Blk w W (worldC n nv vv bv) 95) (hb : BagOwn w B bv bag) (hl : bag.length ≤ 8) (hB : B ≤ w.heap.size) :
    Calls Tryz.prog 62 #[.pointer (some ⟨W, 0, none⟩), .string s] w fun e w' => (∃ v, e = .returned v) ∧ SendPost B W n nv vv bv w w' := by
  obtain ⟨i0, hi, hz0, hz1, hz2⟩ := info_parts tinfo9
  have HI : Hid (Tryz.prog.info? 9 = some i0 ∧ i0.zero = some (.string ⟨#[]⟩) ∧ i0.size = 1 ∧ i0.bytes = 16) := ⟨hi, hz0, hz1, hz2⟩
  have HW := hide0 hW
  have HBG := hide0 hb
  have hWlt := hW.lt
  obtain ⟨ba, bc, rfl⟩ := hb.at.slice
  have c3 : w.cell? ⟨W, 3, none⟩ = some (.slice ba bag.length bc) := hW.cell 3
  have HDR : Hid (bag.length = 8 → Calls Tryz.prog 64 #[.pointer (some ⟨W, 0, none⟩), .int .i64 0] w fun e w' => (∃ v, e = .returned v) ∧ DropPost B W n nv vv 7 w w') := fun h8 =>
    drop_any B W n nv vv _ bag 0 7 w hW hb hl (by omega) (by omega)
  clear hi hz0 hz1 hz2 hb hW
  generalize hbl : bag.length = bl at *
  have HBL := hide0 hbl
  clear hbl
  go_enter Tryz.func62, Tryz.ntmps62
  by_cases h8 : bl = 8
  · subst h8
    have hee : ((8 : Int) == 8) = true := by simp
    go_wp2_with fail
    refine (HDR.out (by trivial)).mono ?_
    rintro e w1 ⟨⟨v, rfl⟩, bv1, bag1, kW1, hO1, hl1, hK1⟩
    have hs1 := hK1.size
    obtain ⟨b1, q1, rfl⟩ := hO1.at.slice
    have d3 : w1.cell? ⟨W, 3, none⟩ = some (.slice b1 bag1.length q1) := kW1.cell 3
    obtain ⟨hi, hz0, hz1, hz2⟩ := HI.out
    have hne := bag_ne hO1 kW1
    have HNE := hide0 hne
    have HO1 := hide0 hO1
    unfold BagOwn at hO1
    generalize hll : bag1.length = ll at *
    have HLN := hide0 hll
    have kA := kW1.alloc (.cells #[.string s] 9)
    have HKA := hide0 kA
    have HK1 := hide0 hK1
    have HKW1 := hide0 kW1
    clear hK1 hll c3 kW1 kA hne
    go_wp2_with (at_builtin; refine wpList_append_lies _ rfl (.tmp 16) (.tmp 18) 93 rfl w.heap.size 9 i0 (.string ⟨#[]⟩) 1 16 Tryz.underlying93 hi hz0 hz1 hz2 rfl (by decide) _ _ _ rfl (World.ownsRow.alloc hO1 _) ⟨w1.heap.size, 0, none⟩ 1 1 [.string s] rfl rfl (World.news_of_block (cs := #[.string s]) (t := 9) (fr := (0, 0)) (Blk.new _ _ _ rfl)) (by intro u hu; simp at hu; subst hu; rfl) (by omega) (by unfold maxLen; omega) (by omega) (by simp; omega) _ rfl ?_; intro g2 cap2 w3 hown1 hgrow hat hglt; have kW3 : Blk w3 W (worldC n nv vv (.slice b1 ll q1)) 95 := (hgrow.block W (by have := HKA.out.lt; exact this) (fun e => HNE.out W e.symm rfl)).trans HKA.out; have f3 := kW3.frozen 3; have e3 : w3.cell? ⟨W, 3, none⟩ = some (.slice b1 ll q1) := kW3.cell 3; have HKW3 := hide0 kW3; clear kW3)
    go_end0
    have hown2 : BagOwn w3 w.heap.size (.slice (some ⟨g2, 0, none⟩) (ll + 1) cap2) (bag1 ++ [s]) := by
      unfold BagOwn; rw [List.length_append, List.map_append, HLN.out]; exact hown1
    have hgW := bag_ne hown2 HKW3.out g2 rfl
    have k3 : Keeps [W] w w3 := (HK1.out.alloc _).grown hgrow (fun k hk => Or.inr ((HO1.out.lt k hk).1))
    refine ⟨⟨_, rfl⟩, .slice (some ⟨g2, 0, none⟩) (ll + 1) cap2, bag1 ++ [s], ?_, ?_, by rw [List.length_append, HLN.out]; simp; omega, ?_, ?_⟩
    · have := HKW3.out.set 3 (.slice (some ⟨g2, 0, none⟩) (ll + 1) cap2)
      unfold worldC at this ⊢
      simpa using this
    · exact ownsRow_base (BagOwn.keep hown2 ((Keeps.refl [W] w3).set (p := ⟨W, 3, none⟩) (Or.inl (by simp)) _) (fun b hb e => by simp at e; subst e; exact hgW (Option.some.inj hb))) hB
    · exact (k3.set (p := ⟨W, 3, none⟩) (Or.inl (by simp)) _).mono (fun b hb => by simp at hb; simp [hb])
    · intro b hb
      have e : g2 = b := Option.some.inj hb
      subst e
      exact Or.inr (hown2.lt g2 rfl).1
  · have hee : ((bl : Int) == 8) = false := by simp; omega
    obtain ⟨hi, hz0, hz1, hz2⟩ := HI.out
    have hO1 := HBG.out
    have HNE := hide0 (bag_ne HBG.out HW.out)
    unfold BagOwn at hO1
    rw [HBL.out] at hO1
    have HKA := hide0 (HW.out.alloc (.cells #[.string s] 9))
    clear HDR
    go_wp2_with (at_builtin; refine wpList_append_lies _ rfl (.tmp 16) (.tmp 18) 93 rfl B 9 i0 (.string ⟨#[]⟩) 1 16 Tryz.underlying93 hi hz0 hz1 hz2 rfl (by decide) _ _ _ rfl (World.ownsRow.alloc hO1 _) ⟨w.heap.size, 0, none⟩ 1 1 [.string s] rfl rfl (World.news_of_block (cs := #[.string s]) (t := 9) (fr := (0, 0)) (Blk.new _ _ _ rfl)) (by intro u hu; simp at hu; subst hu; rfl) (by omega) (by unfold maxLen; omega) (by omega) (by simp; omega) _ rfl ?_; intro g2 cap2 w3 hown1 hgrow hat hglt; have kW3 : Blk w3 W (worldC n nv vv (.slice ba bl bc)) 95 := (hgrow.block W (by have := HKA.out.lt; exact this) (fun e => HNE.out W e.symm rfl)).trans HKA.out; have f3 := kW3.frozen 3; have e3 : w3.cell? ⟨W, 3, none⟩ = some (.slice ba bl bc) := kW3.cell 3; have HKW3 := hide0 kW3; clear kW3)
    go_end0
    have hown2 : BagOwn w3 B (.slice (some ⟨g2, 0, none⟩) (bl + 1) cap2) (bag ++ [s]) := by
      unfold BagOwn; rw [List.length_append, List.map_append, HBL.out]; exact hown1
    have hgW := bag_ne hown2 HKW3.out g2 rfl
    have k3 : Keeps (W :: ownB (.slice ba bl bc)) w w3 := ((Keeps.refl _ w).alloc _).grown hgrow (fun k hk => Or.inl (List.mem_cons_of_mem _ (Option.mem_toList.2 hk)))
    refine ⟨⟨_, rfl⟩, .slice (some ⟨g2, 0, none⟩) (bl + 1) cap2, bag ++ [s], ?_, ?_, by rw [List.length_append, HBL.out]; simp; omega, ?_, ?_⟩
    · have := HKW3.out.set 3 (.slice (some ⟨g2, 0, none⟩) (bl + 1) cap2)
      unfold worldC at this ⊢
      simpa using this
    · exact BagOwn.keep hown2 ((Keeps.refl [W] w3).set (p := ⟨W, 3, none⟩) (Or.inl (by simp)) _) (fun b hb e => by simp at e; subst e; exact hgW (Option.some.inj hb))
    · exact k3.set (p := ⟨W, 3, none⟩) (Or.inl (by simp)) _
    · intro b hb
      have e : g2 = b := Option.some.inj hb
      subst e
      rcases hat with h | h
      · exact Or.inl h
      · right; rw [h]; simp

end Go.Proofs.YtmlcblnndihjoaaGreat

namespace Go.Proofs.YtmlcblnndihjoaaGreat
open Go.RowKit

def Wide (n : Int) : Prop := 1 ≤ n ∧ n ≤ 3

/-- the whole world of a script -/
structure WW (w : World) (B W nb nc : Nat) (n : Int) (P : Nat → Nat) (G : Nat → LN) (M : List Nat) (vv bv : Value) (zs : List Int) (bag : List ByteArray) : Prop where
  blk : Blk w W (worldC n (.slice (some ⟨nb, 0, none⟩) 3 nc) vv bv) 95
  WM : W ∈ M
  hM : ∀ b ∈ M, B ≤ b ∧ b < w.heap.size
  nd : Held M w (fun w => ∀ i, i < 3 → w.cell? ⟨nb, i, none⟩ = some (.pointer (some ⟨P i, 0, none⟩)))
  la : ∀ i, i < 3 → LAt M w n.toNat (P i) (G i)
  pne : ∀ i j, i < 3 → j < 3 → i ≠ j → P i ≠ P j
  ok : Wide n → ∀ i, i < 3 → LOK n.toNat (G i)
  bad : ¬ Wide n → ∀ i, i < 3 → (G i).x = none ∧ (G i).disk.length = 8
  xb : ∀ i, i < 3 → ∀ q f, (G i).x = some (q, f) → Blk w q (nodeC n.toNat (G i).now f) 133 ∧ q ∈ M
  xne : ∀ i j, i < 3 → j < 3 → i ≠ j → ∀ q f q' f', (G i).x = some (q, f) → (G j).x = some (q', f') → q ≠ q'
  vo : w.ownsRow B 3 1 vv zs.length (zs.map (Value.int .i64))
  vM : ∀ b, vv.ownBlock = some b → b ∈ M
  bo : BagOwn w B bv bag
  bM : ∀ b, bv.ownBlock = some b → b ∈ M
  bl : bag.length ≤ 8

theorem owns_ne {w : World} {B g : Nat} {e T : TypeId} {size n : Nat} {v : Value} {xs : List Value} {cs : Array Value} (h : w.ownsRow B e size v n xs) (k : Blk w g cs T) (hne : e ≠ T) : ∀ b, v.ownBlock = some b → b ≠ g := fun b hb eq => by
  rcases h.2 with ⟨h1, _⟩ | ⟨g', cap, cur, h1, _, h3, _⟩
  · rw [h1] at hb; cases hb
  · rw [h1] at hb
    have e2 : g' = b := Option.some.inj hb
    subst e2
    exact blk_ne (w := w) (a := g') (b := g) h3 k hne eq

def upd (G : Nat → LN) (i : Nat) (g : LN) : Nat → LN := fun j => if j = i then g else G j

/-- one node has changed; M' may name new blocks -/
theorem WW.upd {w w' : World} {B W nb nc : Nat} {n : Int} {P : Nat → Nat} {G : Nat → LN} {M M' N : List Nat} {vv bv : Value} {zs : List Int} {bag : List ByteArray} (h : WW w B W nb nc n P G M vv bv zs bag) {i : Nat} (hi : i < 3) {g' : LN}
    (hk : Keeps N w w') (hNM : ∀ b ∈ N, b ∈ M) (hMM : ∀ b ∈ M, b ∈ M') (hM' : ∀ b ∈ M', b ∈ M ∨ (w.heap.size ≤ b ∧ b < w'.heap.size))
    (hNo : ∀ b ∈ N, b = P i ∨ ∃ f, (G i).x = some (b, f))
    (hla : LAt M' w' n.toNat (P i) g') (hok : Wide n → LOK n.toNat g') (hbad : ¬ Wide n → g'.x = none ∧ g'.disk.length = 8)
    (hxb : ∀ q f, g'.x = some (q, f) → Blk w' q (nodeC n.toNat g'.now f) 133 ∧ q ∈ M') (hxo : ∀ q f, g'.x = some (q, f) → (∃ f0, (G i).x = some (q, f0)) ∨ w.heap.size ≤ q) (hB : B ≤ w.heap.size) :
    WW w' B W nb nc n P (upd G i g') M' vv bv zs bag := by
  have kM : Keeps M w w' := hk.mono hNM
  have kM' : Keeps M' w w' := kM.mono hMM
  have hMM2 : ∀ b ∈ M', b ∈ M ∨ w.heap.size ≤ b := fun b hb => (hM' b hb).imp id (fun q => q.1)
  have tN : ∀ b ∈ N, ∃ cs T, Blk w b cs T ∧ (T = 101 ∨ T = 133) := fun b hb => by
    rcases hNo b hb with e | ⟨f, e⟩
    · exact ⟨_, _, by rw [e]; exact (h.la i hi).blk, Or.inl rfl⟩
    · exact ⟨_, _, (h.xb i hi b f e).1, Or.inr rfl⟩
  have offN : ∀ {a : Nat} {cs : Array Value} {T : TypeId}, Blk w a cs T → T ≠ 101 → T ≠ 133 → a ∉ N := fun {a cs T} k h1 h2 hN => by
    obtain ⟨cs', T', k', e⟩ := tN a hN
    rcases e with rfl | rfl
    · exact blk_ne k k' h1 rfl
    · exact blk_ne k k' h2 rfl
  have hjN : ∀ j, j < 3 → j ≠ i → P j ∉ N := fun j hj hne hN => by
    rcases hNo _ hN with e | ⟨f, e⟩
    · exact h.pne j i hj hi hne e
    · exact blk_ne (h.la j hj).blk (h.xb i hi _ f e).1 (by decide) rfl
  have hqN : ∀ j, j < 3 → j ≠ i → ∀ q f, (G j).x = some (q, f) → q ∉ N := fun j hj hne q f hx hN => by
    rcases hNo _ hN with e | ⟨f', e⟩
    · exact blk_ne (h.la i hi).blk (h.xb j hj q f hx).1 (by decide) e.symm
    · exact h.xne j i hj hi hne q f q f' hx e rfl
  have ownN : ∀ {e : TypeId} {size k : Nat} {v : Value} {xs : List Value}, w.ownsRow B e size v k xs → e ≠ 101 → e ≠ 133 → w'.ownsRow B e size v k xs := fun {e size k v xs} ho h1 h2 =>
    owns_block ho (fun b hb hob => hk.block b hb (fun hN => by
      obtain ⟨cs', T', k', et⟩ := tN b hN
      rcases et with rfl | rfl
      · exact owns_ne ho k' h1 b hob rfl
      · exact owns_ne ho k' h2 b hob rfl))
  have hs := hk.size
  refine ⟨hk.blk h.blk (offN h.blk (by decide) (by decide)), hMM _ h.WM, fun b hb => ?_, (h.nd.less hMM2).keep kM', fun j hj => ?_, h.pne, fun hw j hj => ?_, fun hw j hj => ?_, fun j hj q f hx => ?_, fun j k hj hk' hne q f q' f' hx hx' => ?_, ownN h.vo (by decide) (by decide), fun b hb => hMM _ (h.vM b hb), ownN h.bo (by decide) (by decide), fun b hb => hMM _ (h.bM b hb), h.bl⟩
  · rcases hM' b hb with q | q
    · have := h.hM b q; omega
    · omega
  · unfold Go.Proofs.YtmlcblnndihjoaaGreat.upd
    by_cases e : j = i
    · subst e; rw [if_pos rfl]; exact hla
    · rw [if_neg e]
      exact ((h.la j hj).less hMM2 (hMM _ (h.la j hj).pM)).keep hk (fun b hb => Or.inl (hMM _ (hNM b hb))) (hjN j hj e)
  · unfold Go.Proofs.YtmlcblnndihjoaaGreat.upd
    by_cases e : j = i
    · subst e; rw [if_pos rfl]; exact hok hw
    · rw [if_neg e]; exact h.ok hw j hj
  · unfold Go.Proofs.YtmlcblnndihjoaaGreat.upd
    by_cases e : j = i
    · subst e; rw [if_pos rfl]; exact hbad hw
    · rw [if_neg e]; exact h.bad hw j hj
  · unfold Go.Proofs.YtmlcblnndihjoaaGreat.upd at hx ⊢
    by_cases e : j = i
    · subst e; rw [if_pos rfl] at hx ⊢; exact hxb q f hx
    · rw [if_neg e] at hx ⊢
      obtain ⟨k1, k2⟩ := h.xb j hj q f hx
      exact ⟨hk.blk k1 (hqN j hj e q f hx), hMM _ k2⟩
  · unfold Go.Proofs.YtmlcblnndihjoaaGreat.upd at hx hx'
    by_cases e : j = i
    · subst e
      rw [if_pos rfl] at hx
      rw [if_neg (fun e => hne e.symm)] at hx'
      have hlt := (h.xb k hk' q' f' hx').1.lt
      rcases hxo q f hx with ⟨f0, h0⟩ | h0
      · exact h.xne j k hj hk' hne q f0 q' f' h0 hx'
      · omega
    · rw [if_neg e] at hx
      by_cases e2 : k = i
      · subst e2
        rw [if_pos rfl] at hx'
        have hlt := (h.xb j hj q f hx).1.lt
        rcases hxo q' f' hx' with ⟨f0, h0⟩ | h0
        · exact h.xne j k hj hk' hne q f q' f0 hx h0
        · omega
      · rw [if_neg e2] at hx'
        exact h.xne j k hj hk' hne q f q' f' hx hx'

end Go.Proofs.YtmlcblnndihjoaaGreat

namespace Go.Proofs.YtmlcblnndihjoaaGreat
open Go.RowKit

/-- the vector or the messages have changed -/
theorem WW.put {w w' : World} {B W nb nc : Nat} {n : Int} {P : Nat → Nat} {G : Nat → LN} {M M' N : List Nat} {vv bv vv' bv' : Value} {zs zs' : List Int} {bag bag' : List ByteArray} (h : WW w B W nb nc n P G M vv bv zs bag)
    (hk : Keeps N w w') (hNo : ∀ b ∈ N, b = W ∨ vv.ownBlock = some b ∨ bv.ownBlock = some b) (hMM : ∀ b ∈ M, b ∈ M') (hM' : ∀ b ∈ M', b ∈ M ∨ (w.heap.size ≤ b ∧ b < w'.heap.size)) (hB : B ≤ w.heap.size)
    (hW : Blk w' W (worldC n (.slice (some ⟨nb, 0, none⟩) 3 nc) vv' bv') 95)
    (vo : w'.ownsRow B 3 1 vv' zs'.length (zs'.map (Value.int .i64))) (vM : ∀ b, vv'.ownBlock = some b → b ∈ M') (bo : BagOwn w' B bv' bag') (bM : ∀ b, bv'.ownBlock = some b → b ∈ M') (bl : bag'.length ≤ 8) :
    WW w' B W nb nc n P G M' vv' bv' zs' bag' := by
  have hNM : ∀ b ∈ N, b ∈ M := fun b hb => by
    rcases hNo b hb with e | e | e
    · rw [e]; exact h.WM
    · exact h.vM b e
    · exact h.bM b e
  have kM' : Keeps M' w w' := hk.mono (fun b hb => hMM b (hNM b hb))
  have hMM2 : ∀ b ∈ M', b ∈ M ∨ w.heap.size ≤ b := fun b hb => (hM' b hb).imp id (fun q => q.1)
  have off : ∀ {a : Nat} {cs : Array Value} {T : TypeId}, Blk w a cs T → T ≠ 95 → 3 ≠ T → 9 ≠ T → a ∉ N := fun {a cs T} k h1 h2 h3 hN => by
    rcases hNo a hN with e | e | e
    · subst e; exact blk_ne k h.blk h1 rfl
    · exact owns_ne h.vo k h2 a e rfl
    · exact owns_ne h.bo k h3 a e rfl
  have hs := hk.size
  refine ⟨hW, hMM _ h.WM, fun b hb => ?_, (h.nd.less hMM2).keep kM', fun j hj => ?_, h.pne, h.ok, h.bad, fun j hj q f hx => ?_, h.xne, vo, vM, bo, bM, bl⟩
  · rcases hM' b hb with q | q
    · have := h.hM b q; omega
    · omega
  · exact ((h.la j hj).less hMM2 (hMM _ (h.la j hj).pM)).keep hk (fun b hb => Or.inl (hMM _ (hNM b hb))) (off (h.la j hj).blk (by decide) (by decide) (by decide))
  · obtain ⟨k1, k2⟩ := h.xb j hj q f hx
    exact ⟨hk.blk k1 (off k1 (by decide) (by decide) (by decide)), hMM _ k2⟩

theorem WW.drew {w : World} {B W nb nc : Nat} {n : Int} {P : Nat → Nat} {G : Nat → LN} {M : List Nat} {vv bv : Value} {zs : List Int} {bag : List ByteArray} (h : WW w B W nb nc n P G M vv bv zs bag) (hB : B ≤ w.heap.size) : WW w.drew B W nb nc n P G M vv bv zs bag :=
  h.put (N := []) (Keeps.refl [] w).drew (by simp) (fun b hb => hb) (fun b hb => Or.inl hb) hB h.blk.drew h.vo h.vM h.bo h.bM h.bl

theorem WW.step {w w' : World} {B W nb nc : Nat} {n : Int} {P : Nat → Nat} {G : Nat → LN} {M : List Nat} {vv bv : Value} {zs : List Int} {bag : List ByteArray} (h : WW w B W nb nc n P G M vv bv zs bag) (hb : Below w.heap.size w w') (hB : B ≤ w.heap.size) : WW w' B W nb nc n P G M vv bv zs bag :=
  h.put (N := []) (keeps_of hb []) (by simp) (fun b hb => hb) (fun b hb => Or.inl hb) hB (h.blk.below hb h.blk.lt) (ownsRow_below h.vo hb (Nat.le_refl _)) h.vM (ownsRow_below h.bo hb (Nat.le_refl _)) h.bM h.bl

theorem WW.size {w : World} {B W nb nc : Nat} {n : Int} {P : Nat → Nat} {G : Nat → LN} {M : List Nat} {vv bv : Value} {zs : List Int} {bag : List ByteArray} (h : WW w B W nb nc n P G M vv bv zs bag) : B ≤ w.heap.size := by
  have := h.hM W h.WM; omega

theorem WW.ofSend {w w' : World} {B W nb nc : Nat} {n : Int} {P : Nat → Nat} {G : Nat → LN} {M : List Nat} {vv bv : Value} {zs : List Int} {bag : List ByteArray} (h : WW w B W nb nc n P G M vv bv zs bag)
    (hs : SendPost B W n (.slice (some ⟨nb, 0, none⟩) 3 nc) vv bv w w') : ∃ M' bv' bag', WW w' B W nb nc n P G M' vv bv' zs bag' ∧ Below B w w' := by
  obtain ⟨bv', bag', kW, ho, hl, hk, hblk⟩ := hs
  have hB := h.size
  have hv' : w'.ownsRow B 3 1 vv zs.length (zs.map (Value.int .i64)) := owns_block h.vo (fun b hb hob => hk.block b hb (fun hN => by
    rw [List.mem_cons] at hN
    rcases hN with e | e
    · exact owns_ne h.vo h.blk (by decide) b hob e
    · have hbb : bv.ownBlock = some b := by simpa [ownB] using e
      rcases h.vo.2 with ⟨h1, _⟩ | ⟨g, cap, cur, h1, _, h3, _⟩
      · rw [h1] at hob; cases hob
      · rw [h1] at hob
        have e2 : g = b := Option.some.inj hob
        subst e2
        exact owns_ne h.bo (g := g) (cs := cur) h3 (by decide) g hbb rfl))
  refine ⟨ownB bv' ++ M, bv', bag', h.put hk ?_ (fun b hb => List.mem_append_right _ hb) ?_ hB kW hv' (fun b hb => List.mem_append_right _ (h.vM b hb)) ho (fun b hb => List.mem_append_left _ (by simpa [ownB] using hb)) hl, hk.below ?_ hB⟩
  · intro b hb
    rw [List.mem_cons] at hb
    rcases hb with e | e
    · exact Or.inl e
    · exact Or.inr (Or.inr (by simpa [ownB] using e))
  · intro b hb
    rw [List.mem_append] at hb
    rcases hb with e | e
    · have hbb : bv'.ownBlock = some b := by simpa [ownB] using e
      rcases hblk b hbb with q | q
      · exact Or.inl (h.bM b q)
      · exact Or.inr ⟨q, (ho.lt b hbb).2⟩
    · exact Or.inl e
  · intro b hb
    rw [List.mem_cons] at hb
    rcases hb with e | e
    · rw [e]; exact (h.hM W h.WM).1
    · exact (h.hM b (h.bM b (by simpa [ownB] using e))).1

theorem WW.ofDrop {w w' : World} {B W nb nc len : Nat} {n : Int} {P : Nat → Nat} {G : Nat → LN} {M : List Nat} {vv bv : Value} {zs : List Int} {bag : List ByteArray} (h : WW w B W nb nc n P G M vv bv zs bag)
    (hs : DropPost B W n (.slice (some ⟨nb, 0, none⟩) 3 nc) vv len w w') (hl8 : len ≤ 8) : ∃ M' bv' bag', WW w' B W nb nc n P G M' vv bv' zs bag' ∧ Below B w w' := by
  obtain ⟨bv', bag', kW, ho, hl, hk⟩ := hs
  exact h.ofSend ⟨bv', bag', kW, ownsRow_base ho h.size, by omega, hk.mono (fun b hb => by simp at hb; simp [hb]), fun b hb => Or.inr (ho.lt b hb).1⟩

theorem WW.ofCall {w w' : World} {B W nb nc : Nat} {n : Int} {P : Nat → Nat} {G : Nat → LN} {M : List Nat} {vv bv : Value} {zs : List Int} {bag : List ByteArray} (h : WW w B W nb nc n P G M vv bv zs bag) (hw : Wide n) {i q : Nat} {f : Bool} (hi : i < 3) (hx : (G i).x = some (q, f))
    (hp : CallPost M n.toNat (P i) q w w') : ∃ G', WW w' B W nb nc n P G' M vv bv zs bag ∧ Below B w w' := by
  obtain ⟨g', f', hx', hla, hok, kx, hk⟩ := hp
  have hqM := (h.xb i hi q f hx).2
  have hpM := (h.la i hi).pM
  have hNM : ∀ b ∈ [P i, q], b ∈ M := fun b hb => by
    simp at hb
    rcases hb with e | e <;> rw [e] <;> assumption
  refine ⟨_, h.upd hi hk hNM (fun b hb => hb) (fun b hb => Or.inl hb) ?_ hla (fun _ => hok) (fun e => absurd hw e) ?_ ?_ h.size, hk.below (fun b hb => (h.hM b (hNM b hb)).1) h.size⟩
  · intro b hb
    simp at hb
    rcases hb with e | e
    · exact Or.inl e
    · exact Or.inr ⟨f, by rw [e]; exact hx⟩
  · intro q' f'' e
    rw [hx'] at e
    cases e
    exact ⟨kx, hqM⟩
  · intro q' f'' e
    rw [hx'] at e
    cases e
    exact Or.inl ⟨f, hx⟩

theorem WW.ofCut {w w' : World} {B W nb nc : Nat} {n : Int} {P : Nat → Nat} {G : Nat → LN} {M : List Nat} {vv bv : Value} {zs : List Int} {bag : List ByteArray} (h : WW w B W nb nc n P G M vv bv zs bag) (hw : Wide n) {i : Nat} (hi : i < 3)
    (hp : ∃ g', g'.x = none ∧ LAt M w' n.toNat (P i) g' ∧ LOK n.toNat g' ∧ Keeps [P i] w w') : ∃ G', WW w' B W nb nc n P G' M vv bv zs bag ∧ Below B w w' := by
  obtain ⟨g', hx', hla, hok, hk⟩ := hp
  have hNM : ∀ b ∈ [P i], b ∈ M := fun b hb => by simp at hb; rw [hb]; exact (h.la i hi).pM
  refine ⟨_, h.upd hi hk hNM (fun b hb => hb) (fun b hb => Or.inl hb) (fun b hb => Or.inl (by simpa using hb)) hla (fun _ => hok) (fun e => absurd hw e) ?_ ?_ h.size, hk.below (fun b hb => (h.hM b (hNM b hb)).1) h.size⟩
  · intro q f e; rw [hx'] at e; cases e
  · intro q f e; rw [hx'] at e; cases e

theorem WW.ofStart {w w' : World} {B W nb nc : Nat} {n : Int} {P : Nat → Nat} {G : Nat → LN} {M : List Nat} {vv bv : Value} {zs : List Int} {bag : List ByteArray} (h : WW w B W nb nc n P G M vv bv zs bag) (hw : Wide n) {i : Nat} (hi : i < 3)
    (hp : StartPost M n.toNat (P i) w w') : ∃ G' M', WW w' B W nb nc n P G' M' vv bv zs bag ∧ Below B w w' := by
  obtain ⟨g', x, f, hx', hxs, hla, hok, kx, hk⟩ := hp
  have hNM : ∀ b ∈ [P i], b ∈ M := fun b hb => by simp at hb; rw [hb]; exact (h.la i hi).pM
  refine ⟨_, x :: M, h.upd hi hk hNM (fun b hb => List.mem_cons_of_mem _ hb) ?_ (fun b hb => Or.inl (by simpa using hb)) hla (fun _ => hok) (fun e => absurd hw e) ?_ ?_ h.size, hk.below (fun b hb => (h.hM b (hNM b hb)).1) h.size⟩
  · intro b hb
    rw [List.mem_cons] at hb
    rcases hb with e | e
    · exact Or.inr ⟨by rw [e]; exact hxs, by rw [e]; exact kx.lt⟩
    · exact Or.inl e
  · intro q f' e
    rw [hx'] at e
    cases e
    exact ⟨kx, List.mem_cons_self⟩
  · intro q f' e
    rw [hx'] at e
    cases e
    exact Or.inr hxs

end Go.Proofs.YtmlcblnndihjoaaGreat

namespace Go.Proofs.YtmlcblnndihjoaaGreat
open Go.RowKit

theorem lpick_det (c n : Int) (h0 : -9223372036854775808 ≤ c) (h1 : c ≤ 9223372036854775807) (n1 : 1 ≤ n) (n2 : n ≤ 1000) :
    ∃ r : Nat, (∀ w0, Calls Tryz.prog 63 #[.int .i64 c, .int .i64 n] w0 fun e w' => e = .returned (.int .i64 (r : Nat)) ∧ w' = w0) ∧ (r : Int) < n := by
  by_cases hc : c < 0
  · have p1 : 0 ≤ -((c + 1).tmod n) := by rw [← Int.neg_tmod]; exact Int.tmod_nonneg _ (by omega)
    refine ⟨(-((c + 1).tmod n)).toNat, fun w0 => ?_, ?_⟩
    · rw [Int.toNat_of_nonneg p1]
      go_enter Tryz.func63, Tryz.ntmps63
      go_wp2
      go_ret
      exact ⟨rfl, rfl⟩
    · rw [Int.toNat_of_nonneg p1, ← Int.neg_tmod]
      exact Int.tmod_lt_of_pos _ (by omega)
  · have p1 : 0 ≤ c % n := Int.emod_nonneg _ (by omega)
    refine ⟨(c % n).toNat, fun w0 => ?_, by rw [Int.toNat_of_nonneg p1]; exact Int.emod_lt_of_pos _ (by omega)⟩
    rw [Int.toNat_of_nonneg p1]
    go_enter Tryz.func63, Tryz.ntmps63
    go_wp2
    go_ret
    exact ⟨rfl, rfl⟩

def StepPost (B W nb nc : Nat) (n : Int) (P : Nat → Nat) (len : Nat) (w w' : World) : Prop :=
  ∃ G' M' vv' bv' zs' bag', WW w' B W nb nc n P G' M' vv' bv' zs' bag' ∧ zs'.length ≤ len + 1 ∧ Below B w w'

def opV (K A Q : Int) (S : ByteArray) : Value := .agg #[.int .i64 K, .int .i64 A, .int .i64 Q, .string S]

theorem WW.cells {w : World} {B W nb nc : Nat} {n : Int} {P : Nat → Nat} {G : Nat → LN} {M : List Nat} {vv bv : Value} {zs : List Int} {bag : List ByteArray} (h : WW w B W nb nc n P G M vv bv zs bag) :
    w.cell? ⟨W, 0, none⟩ = some (.int .i64 n) ∧ w.cell? ⟨W, 1, none⟩ = some (.slice (some ⟨nb, 0, none⟩) 3 nc) ∧ w.cell? ⟨W, 2, none⟩ = some vv ∧ w.cell? ⟨W, 3, none⟩ = some bv :=
  ⟨h.blk.cell 0, h.blk.cell 1, h.blk.cell 2, h.blk.cell 3⟩

theorem vec_slice {w : World} {B : Nat} {vv : Value} {zs : List Int} (h : w.ownsRow B 3 1 vv zs.length (zs.map (Value.int .i64))) : ∃ a c, vv = .slice a zs.length c := by
  rcases h.2 with ⟨h1, h2⟩ | ⟨g, cap, cur, h1, _⟩
  · exact ⟨none, 0, by rw [h1, h2]⟩
  · exact ⟨_, _, h1⟩

set_option maxRecDepth 100000 in
set_option maxHeartbeats 8000000 in
theorem step2 {B W nb nc : Nat} {n : Int} {P : Nat → Nat} {G : Nat → LN} {M : List Nat} {vv bv : Value} {zs : List Int} {bag : List ByteArray} (A Q : Int) (S : ByteArray) (w : World) (h : WW w B W nb nc n P G M vv bv zs bag) :
    Calls Tryz.prog 40 #[.pointer (some ⟨W, 0, none⟩), opV 2 A Q S] w fun e w' => e = .returned (.bool true) ∧ StepPost B W nb nc n P zs.length w w' := by
  have hA : Below w.heap.size w (w.alloc (.cells #[.int .i64 2, .int .i64 A, .int .i64 Q, .string S] 70)) := (Below.refl _ w).alloc (Nat.le_refl _) _
  have hB := h.size
  have h1 := h.step hA hB
  have HB1 := hide0 (hA.mono hB)
  have kO := Blk.new w #[.int .i64 2, .int .i64 A, .int .i64 Q, .string S] 70 rfl
  have hWlt := h1.blk.lt
  have hWne : W ≠ w.heap.size := by have := h.blk.lt; omega
  unfold opV
  clear h hA
  go_enter Tryz.func40, Tryz.ntmps40
  go_upto_region 1 with fail
  obtain ⟨o0, o1, o2, o3⟩ : (w.alloc (.cells #[.int .i64 2, .int .i64 A, .int .i64 Q, .string S] 70)).cell? ⟨w.heap.size, 0, none⟩ = some (.int .i64 2) ∧ (w.alloc (.cells #[.int .i64 2, .int .i64 A, .int .i64 Q, .string S] 70)).cell? ⟨w.heap.size, 1, none⟩ = some (.int .i64 A) ∧ (w.alloc (.cells #[.int .i64 2, .int .i64 A, .int .i64 Q, .string S] 70)).cell? ⟨w.heap.size, 2, none⟩ = some (.int .i64 Q) ∧ (w.alloc (.cells #[.int .i64 2, .int .i64 A, .int .i64 Q, .string S] 70)).cell? ⟨w.heap.size, 3, none⟩ = some (.string S) := ⟨kO.cell 0, kO.cell 1, kO.cell 2, kO.cell 3⟩
  have hOlt := kO.lt
  clear kO
  generalize w.alloc (.cells #[.int .i64 2, .int .i64 A, .int .i64 Q, .string S] 70) = w1 at *
  have hB1 := h1.size
  have H1 := hide0 h1
  obtain ⟨c0, c1, c2, c3⟩ := h1.cells
  have f2 := h1.blk.frozen 2
  obtain ⟨va, vc, rfl⟩ := vec_slice h1.vo
  clear h1
  generalize hzl : zs.length = zl at *
  go_wp2
  go_ret
  have hk := (Keeps.refl [W] w1).set (p := ⟨W, 2, none⟩) (Or.inl (by simp)) (.slice none 0 0)
  have hWM := H1.out.hM W H1.out.WM
  refine ⟨rfl, G, M, .slice none 0 0, bv, [], bag, ?_, by simp, HB1.out.trans (hk.below (fun b hb => by simp at hb; subst hb; exact hWM.1) H1.out.size)⟩
  refine H1.out.put hk (fun b hb => Or.inl (by simpa using hb)) (fun b hb => hb) (fun b hb => Or.inl hb) H1.out.size ?_ (World.ownsRow_nil _ _ _ _) (fun b hb => by cases hb) ?_ H1.out.bM H1.out.bl
  · have := H1.out.blk.set 2 (.slice none 0 0)
    unfold worldC at this ⊢
    simpa using this
  · exact H1.out.bo.keep hk (fun b hb e => by simp at e; exact owns_ne H1.out.bo H1.out.blk (by decide) b hb e)

set_option maxRecDepth 100000 in
set_option maxHeartbeats 8000000 in
theorem step6 {B W nb nc : Nat} {n : Int} {P : Nat → Nat} {G : Nat → LN} {M : List Nat} {vv bv : Value} {zs : List Int} {bag : List ByteArray} (A Q : Int) (S : ByteArray) (w : World) (h : WW w B W nb nc n P G M vv bv zs bag) :
    Calls Tryz.prog 40 #[.pointer (some ⟨W, 0, none⟩), opV 6 A Q S] w fun e w' => e = .returned (.bool true) ∧ StepPost B W nb nc n P zs.length w w' := by
  have hA : Below w.heap.size w (w.alloc (.cells #[.int .i64 6, .int .i64 A, .int .i64 Q, .string S] 70)) := (Below.refl _ w).alloc (Nat.le_refl _) _
  have hB := h.size
  have h1 := h.step hA hB
  have HB1 := hide0 (hA.mono hB)
  have kO := Blk.new w #[.int .i64 6, .int .i64 A, .int .i64 Q, .string S] 70 rfl
  have hWlt := h1.blk.lt
  have hWne : W ≠ w.heap.size := by have := h.blk.lt; omega
  unfold opV
  clear h hA
  go_enter Tryz.func40, Tryz.ntmps40
  go_upto_region 1 with fail
  obtain ⟨o0, o1, o2, o3⟩ : (w.alloc (.cells #[.int .i64 6, .int .i64 A, .int .i64 Q, .string S] 70)).cell? ⟨w.heap.size, 0, none⟩ = some (.int .i64 6) ∧ (w.alloc (.cells #[.int .i64 6, .int .i64 A, .int .i64 Q, .string S] 70)).cell? ⟨w.heap.size, 1, none⟩ = some (.int .i64 A) ∧ (w.alloc (.cells #[.int .i64 6, .int .i64 A, .int .i64 Q, .string S] 70)).cell? ⟨w.heap.size, 2, none⟩ = some (.int .i64 Q) ∧ (w.alloc (.cells #[.int .i64 6, .int .i64 A, .int .i64 Q, .string S] 70)).cell? ⟨w.heap.size, 3, none⟩ = some (.string S) := ⟨kO.cell 0, kO.cell 1, kO.cell 2, kO.cell 3⟩
  have hOlt := kO.lt
  clear kO
  generalize w.alloc (.cells #[.int .i64 6, .int .i64 A, .int .i64 Q, .string S] 70) = w1 at *
  have hB1 := h1.size
  have H1 := hide0 h1
  have HSE := hide0 (send_any B W n _ vv bv bag S _ h1.blk h1.bo h1.bl h1.size)
  clear h1
  go_wp2_with fail
  refine HSE.out.mono ?_
  rintro e w2 ⟨⟨v, rfl⟩, hS⟩
  obtain ⟨M', bv', bag', h2, hb2⟩ := H1.out.ofSend hS
  have HP : Hid (StepPost B W nb nc n P zs.length w w2) := ⟨G, M', vv, bv', zs, bag', h2, by omega, HB1.out.trans hb2⟩
  clear hS h2 hb2
  go_wp2
  go_ret
  exact ⟨rfl, HP.out⟩

set_option maxRecDepth 100000 in
set_option maxHeartbeats 8000000 in
theorem step8 {B W nb nc : Nat} {n : Int} {P : Nat → Nat} {G : Nat → LN} {M : List Nat} {vv bv : Value} {zs : List Int} {bag : List ByteArray} (A Q : Int) (S : ByteArray) (w : World) (h : WW w B W nb nc n P G M vv bv zs bag) (hA0 : -9223372036854775808 ≤ A ∧ A ≤ 9223372036854775807) :
    Calls Tryz.prog 40 #[.pointer (some ⟨W, 0, none⟩), opV 8 A Q S] w fun e w' => e = .returned (.bool true) ∧ StepPost B W nb nc n P zs.length w w' := by
  have hA : Below w.heap.size w (w.alloc (.cells #[.int .i64 8, .int .i64 A, .int .i64 Q, .string S] 70)) := (Below.refl _ w).alloc (Nat.le_refl _) _
  have hB := h.size
  have h1 := h.step hA hB
  have HB1 := hide0 (hA.mono hB)
  have kO := Blk.new w #[.int .i64 8, .int .i64 A, .int .i64 Q, .string S] 70 rfl
  have hWlt := h1.blk.lt
  have hWne : W ≠ w.heap.size := by have := h.blk.lt; omega
  unfold opV
  clear h hA
  go_enter Tryz.func40, Tryz.ntmps40
  go_upto_region 1 with fail
  obtain ⟨o0, o1, o2, o3⟩ : (w.alloc (.cells #[.int .i64 8, .int .i64 A, .int .i64 Q, .string S] 70)).cell? ⟨w.heap.size, 0, none⟩ = some (.int .i64 8) ∧ (w.alloc (.cells #[.int .i64 8, .int .i64 A, .int .i64 Q, .string S] 70)).cell? ⟨w.heap.size, 1, none⟩ = some (.int .i64 A) ∧ (w.alloc (.cells #[.int .i64 8, .int .i64 A, .int .i64 Q, .string S] 70)).cell? ⟨w.heap.size, 2, none⟩ = some (.int .i64 Q) ∧ (w.alloc (.cells #[.int .i64 8, .int .i64 A, .int .i64 Q, .string S] 70)).cell? ⟨w.heap.size, 3, none⟩ = some (.string S) := ⟨kO.cell 0, kO.cell 1, kO.cell 2, kO.cell 3⟩
  have hOlt := kO.lt
  clear kO
  generalize w.alloc (.cells #[.int .i64 8, .int .i64 A, .int .i64 Q, .string S] 70) = w1 at *
  have hB1 := h1.size
  have H1 := hide0 h1
  obtain ⟨c0, c1, c2, c3⟩ := h1.cells
  obtain ⟨ba, bc, rfl⟩ := h1.bo.at.slice
  by_cases hz : bag.length = 0
  · have hgt : decide (((bag.length : Nat) : Int) > 0) = false := decide_eq_false (by omega)
    have HP : Hid (StepPost B W nb nc n P zs.length w w1) := ⟨G, M, _, _, zs, bag, h1, by omega, HB1.out⟩
    generalize bag.length = bl at *
    clear h1
    go_wp2
    go_ret
    exact ⟨rfl, HP.out⟩
  · obtain ⟨r, hp, hr⟩ := lpick_det A (bag.length : Int) hA0.1 hA0.2 (by omega) (by have := h1.bl; omega)
    have HP := hide0 hp
    have hgt : decide (((bag.length : Nat) : Int) > 0) = true := decide_eq_true (by omega)
    have hNq : ∀ nq, Below w1.heap.size w1 (w1.drewN nq) := fun nq => below_drewN (Below.refl _ w1)
    have HNQ := hide0 hNq
    have HDR := hide0 (fun nq => drop_any B W n _ vv _ bag r (bag.length - 1) (w1.drewN nq) (h1.step (hNq nq) hB1).blk (h1.step (hNq nq) hB1).bo h1.bl (by omega) (by omega))
    clear hNq
    generalize hbl : bag.length = bl at *
    have hbl8 : bl ≤ 8 := by rw [← hbl]; exact h1.bl
    have HBL := hide0 hbl
    clear h1 hp hbl
    go_upto_region 13 with fail
    go_quiet ((go_at_call 63; exact Calls.quiet_of_same (HP.out _)))
    go_wp2_with fail
    refine (HDR.out _).mono ?_
    rintro e w2 ⟨⟨v, rfl⟩, hS⟩
    obtain ⟨M', bv', bag', h2, hb2⟩ := (H1.out.step (HNQ.out _) hB1).ofDrop hS (by omega)
    have HPP : Hid (StepPost B W nb nc n P zs.length w w2) := ⟨G, M', vv, bv', zs, bag', h2, by omega, (HB1.out.trans ((HNQ.out _).mono hB1)).trans hb2⟩
    clear hS h2 hb2
    go_wp2
    go_ret
    exact ⟨rfl, HPP.out⟩

end Go.Proofs.YtmlcblnndihjoaaGreat

namespace Go.Proofs.YtmlcblnndihjoaaGreat
open Go.RowKit

theorem vec_end {w1 w3 : World} {B W nb nc zl vc g2 cap2 : Nat} {va : Option Addr} {n A : Int} {P : Nat → Nat} {G : Nat → LN} {M : List Nat} {bv : Value} {zs : List Int} {bag : List ByteArray} {o : Obj} (h : WW w1 B W nb nc n P G M (.slice va zl vc) bv zs bag) (hB : B ≤ w1.heap.size) (hzl : zs.length = zl)
    (hg : (w1.drew.alloc o).grownBy w3 (Value.slice va zl vc).ownBlock) (ho : w3.ownsRow B 3 1 (.slice (some ⟨g2, 0, none⟩) (zl + 1) cap2) (zs ++ [A]).length ((zs ++ [A]).map (Value.int .i64)))
    (hat : (Value.slice va zl vc).ownBlock = some g2 ∨ g2 = w1.heap.size + 1) (kW : Blk w3 W (worldC n (.slice (some ⟨nb, 0, none⟩) 3 nc) (.slice va zl vc) bv) 95) :
    ∃ M' vv', WW (w3.setCell ⟨W, 2, none⟩ (.slice (some ⟨g2, 0, none⟩) (zl + 1) cap2)) B W nb nc n P G M' vv' bv (zs ++ [A]) bag ∧ Below B w1 (w3.setCell ⟨W, 2, none⟩ (.slice (some ⟨g2, 0, none⟩) (zl + 1) cap2)) := by
  have k0 : Keeps (W :: ownB (.slice va zl vc)) w1 w3 := (((Keeps.refl _ w1).drew).alloc o).grown hg (fun k hk => Or.inl (List.mem_cons_of_mem _ (Option.mem_toList.2 hk)))
  have k1 := k0.set (p := ⟨W, 2, none⟩) (Or.inl (by simp)) (.slice (some ⟨g2, 0, none⟩) (zl + 1) cap2)
  have hgW := owns_ne ho kW (by decide) g2 rfl
  have ho1 : (w3.setCell ⟨W, 2, none⟩ (.slice (some ⟨g2, 0, none⟩) (zl + 1) cap2)).ownsRow B 3 1 (.slice (some ⟨g2, 0, none⟩) (zl + 1) cap2) (zs ++ [A]).length ((zs ++ [A]).map (Value.int .i64)) :=
    owns_block ho (fun b hb hob => ((Keeps.refl [W] w3).set (p := ⟨W, 2, none⟩) (Or.inl (by simp)) _).block b hb (fun e => by simp at e; subst e; exact hgW (Option.some.inj hob)))
  have hbo : BagOwn (w3.setCell ⟨W, 2, none⟩ (.slice (some ⟨g2, 0, none⟩) (zl + 1) cap2)) B bv bag := h.bo.keep k1 (fun b hb e => by
    rw [List.mem_cons] at e
    rcases e with e | e
    · exact owns_ne h.bo h.blk (by decide) b hb e
    · have hvb : (Value.slice va zl vc).ownBlock = some b := Option.mem_toList.1 e
      rcases h.bo.2 with ⟨h1, _⟩ | ⟨g, cap, cur, h1, _, h3, _⟩
      · rw [h1] at hb; cases hb
      · rw [h1] at hb
        have e2 : g = b := Option.some.inj hb
        subst e2
        exact owns_ne h.vo (g := g) (cs := cur) h3 (by decide) g hvb rfl)
  have hkW : Blk (w3.setCell ⟨W, 2, none⟩ (.slice (some ⟨g2, 0, none⟩) (zl + 1) cap2)) W (worldC n (.slice (some ⟨nb, 0, none⟩) 3 nc) (.slice (some ⟨g2, 0, none⟩) (zl + 1) cap2) bv) 95 := by
    have := kW.set 2 (.slice (some ⟨g2, 0, none⟩) (zl + 1) cap2)
    unfold worldC at this ⊢
    simpa using this
  refine ⟨g2 :: M, _, h.put k1 ?_ (fun b hb => List.mem_cons_of_mem _ hb) ?_ hB hkW ho1 (fun b hb => by
      have e : g2 = b := Option.some.inj hb
      rw [← e]; exact List.mem_cons_self) hbo (fun b hb => List.mem_cons_of_mem _ (h.bM b hb)) h.bl, k1.below ?_ hB⟩
  · intro b hb
    rw [List.mem_cons] at hb
    rcases hb with e | e
    · exact Or.inl e
    · exact Or.inr (Or.inl (Option.mem_toList.1 e))
  · intro b hb
    rw [List.mem_cons] at hb
    rcases hb with e | e
    · rw [e]
      rcases hat with q | q
      · exact Or.inl (h.vM g2 q)
      · exact Or.inr ⟨by omega, (ho1.lt g2 rfl).2⟩
    · exact Or.inl e
  · intro b hb
    rw [List.mem_cons] at hb
    rcases hb with e | e
    · rw [e]; exact (h.hM W h.WM).1
    · exact (h.hM b (h.vM b (Option.mem_toList.1 e))).1

set_option maxRecDepth 100000 in
set_option maxHeartbeats 8000000 in
theorem step1 {B W nb nc : Nat} {n : Int} {P : Nat → Nat} {G : Nat → LN} {M : List Nat} {vv bv : Value} {zs : List Int} {bag : List ByteArray} (A Q : Int) (S : ByteArray) (w : World) (h : WW w B W nb nc n P G M vv bv zs bag) (hzb : zs.length < 1073741824) :
    Calls Tryz.prog 40 #[.pointer (some ⟨W, 0, none⟩), opV 1 A Q S] w fun e w' => e = .returned (.bool true) ∧ StepPost B W nb nc n P zs.length w w' := by
  have hA : Below w.heap.size w (w.alloc (.cells #[.int .i64 1, .int .i64 A, .int .i64 Q, .string S] 70)) := (Below.refl _ w).alloc (Nat.le_refl _) _
  have hB := h.size
  have h1 := h.step hA hB
  have HB1 := hide0 (hA.mono hB)
  have kO := Blk.new w #[.int .i64 1, .int .i64 A, .int .i64 Q, .string S] 70 rfl
  have hWlt := h1.blk.lt
  have hWne : W ≠ w.heap.size := by have := h.blk.lt; omega
  have hvb : ∀ b, vv.ownBlock = some b → b < w.heap.size := fun b hb => (h.vo.lt b hb).2
  unfold opV
  clear h hA
  go_enter Tryz.func40, Tryz.ntmps40
  go_upto_region 1 with fail
  obtain ⟨o0, o1, o2, o3⟩ : (w.alloc (.cells #[.int .i64 1, .int .i64 A, .int .i64 Q, .string S] 70)).cell? ⟨w.heap.size, 0, none⟩ = some (.int .i64 1) ∧ (w.alloc (.cells #[.int .i64 1, .int .i64 A, .int .i64 Q, .string S] 70)).cell? ⟨w.heap.size, 1, none⟩ = some (.int .i64 A) ∧ (w.alloc (.cells #[.int .i64 1, .int .i64 A, .int .i64 Q, .string S] 70)).cell? ⟨w.heap.size, 2, none⟩ = some (.int .i64 Q) ∧ (w.alloc (.cells #[.int .i64 1, .int .i64 A, .int .i64 Q, .string S] 70)).cell? ⟨w.heap.size, 3, none⟩ = some (.string S) := ⟨kO.cell 0, kO.cell 1, kO.cell 2, kO.cell 3⟩
  have hOlt := kO.lt
  clear kO
  generalize w.alloc (.cells #[.int .i64 1, .int .i64 A, .int .i64 Q, .string S] 70) = w1 at *
  have hB1 := h1.size
  have H1 := hide0 h1
  obtain ⟨c0, c1, c2, c3⟩ := h1.cells
  have f2 := h1.blk.frozen 2
  have hvo := h1.vo
  have hvne := owns_ne h1.vo h1.blk (by decide)
  have hlt := fun k (hk : vv.ownBlock = some k) => h1.vo.lt k hk
  obtain ⟨i0, hi, hz0, hz1, hz2⟩ := info_parts tinfo3
  obtain ⟨va, vc, rfl⟩ := vec_slice h1.vo
  clear h1
  generalize hzl : zs.length = zl at *
  go_upto_region 3 with fail
  go_cut [] (fun wx => ∃ M' vv', WW wx B W nb nc n P G M' vv' bv (zs ++ [A]) bag ∧ Below B w1 wx)
  case first =>
    go_region_law ((refine step_append_lies _ rfl (.tmp 16) (.tmp 19) 23 rfl B 3 i0 (.int .i64 0) 1 8 Tryz.underlying23 hi hz0 hz1 hz2 rfl (by decide) _ _ _ rfl (World.ownsRow.alloc (w := w1.drew) hvo _) ⟨w1.heap.size, 0, none⟩ 1 1 [.int .i64 A] rfl rfl (World.news_of_block (cs := #[.int .i64 A]) (t := 3) (fr := (0, 0)) (Blk.new _ _ _ rfl)) (by intro u hu; simp at hu; subst hu; rfl) (by omega) (by unfold maxLen; omega) (by omega) (by simp; omega) _ rfl ?_; intro g2 cap2 w3 hown1 hgrow hat hglt; have kW3 : Blk w3 W (worldC n (.slice (some ⟨nb, 0, none⟩) 3 nc) (.slice va zl vc) bv) 95 := (hgrow.block W (by simp; omega) (fun e => hvne W e.symm rfl)).trans (Blk.alloc (Blk.drew H1.out.blk) _); have x2 := kW3.frozen 2; have y2 : w3.cell? ⟨W, 2, none⟩ = some (.slice va zl vc) := kW3.cell 2))
    all_goals (go_wp2_with fail)
    all_goals go_meet
    all_goals (
      have hown2 : w3.ownsRow B 3 1 (.slice (some ⟨g2, 0, none⟩) (zl + 1) cap2) (zs ++ [A]).length ((zs ++ [A]).map (Value.int .i64)) := by
        rw [List.length_append, List.map_append, hzl]; exact hown1
      exact vec_end H1.out hB1 hzl hgrow hown2 (hat.imp (fun e => e) (fun e => by simpa using e)) kW3)
  case rest =>
  rename World => wC
  obtain ⟨M', vv', h2, hb2⟩ := hcut
  have HP : Hid (StepPost B W nb nc n P zl w wC) := ⟨G, M', vv', bv, zs ++ [A], bag, h2, by rw [List.length_append, hzl]; simp, HB1.out.trans hb2⟩
  clear h2 hb2
  go_wp2
  go_ret
  exact ⟨rfl, by rw [hzl]; exact HP.out⟩

end Go.Proofs.YtmlcblnndihjoaaGreat

namespace Go.Proofs.YtmlcblnndihjoaaGreat
open Go.RowKit

theorem vec_at {w : World} {B : Nat} {vv : Value} {zs : List Int} (h : w.ownsRow B 3 1 vv zs.length (zs.map (Value.int .i64))) : IntsAt w vv zs := by
  by_cases h0 : 0 < zs.length
  · obtain ⟨g, cap, hv, _, hc⟩ := ownsRow_cell h h0
    refine Or.inr ⟨h0, g, 0, cap, hv, fun i hi => ?_⟩
    rw [Nat.zero_add, hc i hi, List.getElem?_map, List.getElem?_eq_getElem hi, List.getD_eq_getElem?_getD, List.getElem?_eq_getElem hi]; rfl
  · have e : zs = [] := List.length_eq_zero_iff.1 (by omega)
    subst e
    rcases h.2 with ⟨h1, _⟩ | ⟨g, cap, cur, h1, _⟩
    · exact Or.inl ⟨rfl, _, _, h1⟩
    · exact Or.inl ⟨rfl, _, cap, h1⟩

theorem ofTrue {B W nb nc len : Nat} {n : Int} {P : Nat → Nat} {G : Nat → LN} {M : List Nat} {vv bv : Value} {zs : List Int} {bag : List ByteArray} {w w' : World} (h : WW w' B W nb nc n P G M vv bv zs bag) (hl : zs.length ≤ len + 1) (hb : Below B w w') : StepPost B W nb nc n P len w w' := ⟨G, M, vv, bv, zs, bag, h, hl, hb⟩

set_option maxRecDepth 100000 in
set_option maxHeartbeats 8000000 in
theorem stepN {B W nb nc : Nat} {n : Int} {P : Nat → Nat} {G : Nat → LN} {M : List Nat} {vv bv : Value} {zs : List Int} {bag : List ByteArray} (K A Q : Int) (S : ByteArray) (w : World) (h : WW w B W nb nc n P G M vv bv zs bag) (hA0 : -9223372036854775808 ≤ A ∧ A ≤ 9223372036854775807) (hQ0 : -9223372036854775808 ≤ Q ∧ Q ≤ 9223372036854775807) (hzb : zs.length ≤ 1073741824) (k1 : K ≠ 1) (k2 : K ≠ 2) (k6 : K ≠ 6) (k8 : K ≠ 8) :
    Calls Tryz.prog 40 #[.pointer (some ⟨W, 0, none⟩), opV K A Q S] w fun e w' => e = .returned (.bool true) ∧ StepPost B W nb nc n P zs.length w w' := by
  have hA : Below w.heap.size w (w.alloc (.cells #[.int .i64 K, .int .i64 A, .int .i64 Q, .string S] 70)) := (Below.refl _ w).alloc (Nat.le_refl _) _
  have hB := h.size
  have h1 := h.step hA hB
  have HB1 := hide0 (hA.mono hB)
  have kO := Blk.new w #[.int .i64 K, .int .i64 A, .int .i64 Q, .string S] 70 rfl
  have hWlt := h1.blk.lt
  have hWne : W ≠ w.heap.size := by have := h.blk.lt; omega
  have HPL : Hid (∀ i, i < 3 → P i < w.heap.size) := fun i hi => (h.la i hi).blk.lt
  have HQL : Hid (∀ i, i < 3 → ∀ q f, (G i).x = some (q, f) → q < w.heap.size) := fun i hi q f hx => (h.xb i hi q f hx).1.lt
  unfold opV
  clear h hA
  go_enter Tryz.func40, Tryz.ntmps40
  go_upto_region 1 with fail
  obtain ⟨o0, o1, o2, o3⟩ : (w.alloc (.cells #[.int .i64 K, .int .i64 A, .int .i64 Q, .string S] 70)).cell? ⟨w.heap.size, 0, none⟩ = some (.int .i64 K) ∧ (w.alloc (.cells #[.int .i64 K, .int .i64 A, .int .i64 Q, .string S] 70)).cell? ⟨w.heap.size, 1, none⟩ = some (.int .i64 A) ∧ (w.alloc (.cells #[.int .i64 K, .int .i64 A, .int .i64 Q, .string S] 70)).cell? ⟨w.heap.size, 2, none⟩ = some (.int .i64 Q) ∧ (w.alloc (.cells #[.int .i64 K, .int .i64 A, .int .i64 Q, .string S] 70)).cell? ⟨w.heap.size, 3, none⟩ = some (.string S) := ⟨kO.cell 0, kO.cell 1, kO.cell 2, kO.cell 3⟩
  have hOlt := kO.lt
  clear kO
  generalize w.alloc (.cells #[.int .i64 K, .int .i64 A, .int .i64 Q, .string S] 70) = w1 at *
  have hB1 := h1.size
  have H1 := hide0 h1
  obtain ⟨r, hp, hr⟩ := lpick_det A 3 hA0.1 hA0.2 (by omega) (by omega)
  have HPI := hide0 hp
  have hr3 : r < 3 := by omega
  obtain ⟨c0, c1, c2, c3⟩ := h1.cells
  have hnd := h1.nd.now r hr3
  have e1 : (K == 1) = false := by simpa using k1
  have e2 : (K == 2) = false := by simpa using k2
  have e6 : (K == 6) = false := by simpa using k6
  have e8 : (K == 8) = false := by simpa using k8
  have hrl : (r : Int) < 3 := hr
  clear h1 hp
  go_upto_region 16 with fail
  go_quiet ((go_at_call 63; exact Calls.quiet_of_same (HPI.out _)))
  have hNq : Below w1.heap.size w1 (w1.drewN nq) := below_drewN (Below.refl _ w1)
  have h2 := H1.out.step hNq hB1
  have HB2 := hide0 (HB1.out.trans (hNq.mono hB1))
  replace o0 := cell_below hNq o0
  replace o1 := cell_below hNq o1
  replace o2 := cell_below hNq o2
  replace o3 := cell_below hNq o3
  clear c0 c1 c2 c3 hnd hNq H1
  generalize w1.drewN nq = w2 at *
  have hB2 := h2.size
  obtain ⟨c0, c1, c2, c3⟩ := h2.cells
  have hla := h2.la r hr3
  have x0 := (LN.six hla).1
  have H2 := hide0 h2
  have hPne : W ≠ P r := blk_ne h2.blk hla.blk (by decide)
  cases hx : (G r).x with
  | none =>
    have ex : (G r).xv = .pointer none := by unfold LN.xv; rw [hx]; rfl
    rw [ex] at x0
    by_cases k3 : K = 3
    · have e3 : (K == 3) = true := by simpa using k3
      by_cases hw : Wide n
      · obtain ⟨m, hm⟩ : ∃ m : Nat, n = (m : Int) := ⟨n.toNat, by unfold Wide at hw; omega⟩
        have hmn : n.toNat = m := by omega
        have HST := hide0 (start_any M W n.toNat (P r) (G r) w2 hla (h2.ok hw r hr3) hx (fun b hb => (h2.hM b hb).2) (by rw [c0, hm]; rfl) hPne)
        have HW := hide0 hw
        clear h2 hla hw hx c0 c1 c2 c3 k1 k2 k6 k8 k3 ex hm hmn
        go_wp2_with fail
        refine HST.out.mono ?_
        rintro e w3 ⟨rfl, hS⟩
        obtain ⟨G', M', h3, hb3⟩ := H2.out.ofStart HW.out hr3 hS
        have HP := hide0 (ofTrue (len := zs.length) h3 (by omega) (HB2.out.trans hb3))
        clear hS h3 hb3
        go_wp2
        go_ret
        exact ⟨rfl, HP.out⟩
      · have HST := hide0 (start_bad M W n.toNat (P r) n (G r) w2 hla (h2.bad hw r hr3).2 c0 hw)
        clear h2 hla hw hx c0 c1 c2 c3 k1 k2 k6 k8 k3 ex
        go_wp2_with fail
        refine HST.out.mono ?_
        rintro e w3 ⟨rfl, hS⟩
        have HP := hide0 (ofTrue (len := zs.length) (H2.out.step hS hB2) (by omega) (HB2.out.trans (hS.mono hB2)))
        clear hS
        go_wp2
        go_ret
        exact ⟨rfl, HP.out⟩
    · have e3 : (K == 3) = false := by simpa using k3
      have HP := hide0 (ofTrue (len := zs.length) h2 (by omega) HB2.out)
      clear h2 hla hx c0 c1 c2 c3 k1 k2 k6 k8 k3 ex
      go_wp2
      go_ret
      exact ⟨rfl, HP.out⟩
  | some qf =>
    obtain ⟨q, f⟩ := qf
    have hw : Wide n := Classical.byContradiction fun hn => by have := (h2.bad hn r hr3).1; rw [hx] at this; cases this
    obtain ⟨m, hm⟩ : ∃ m : Nat, n = (m : Int) := ⟨n.toNat, by unfold Wide at hw; omega⟩
    have hmn : n.toNat = m := by omega
    obtain ⟨kx, hqM⟩ := h2.xb r hr3 q f hx
    have ex : (G r).xv = .pointer (some ⟨q, 0, none⟩) := by unfold LN.xv; rw [hx]; rfl
    rw [ex] at x0
    have c0m : w2.cell? ⟨W, 0, none⟩ = some (.int .i64 (n.toNat : Nat)) := by rw [c0, hm]; rfl
    have hWq : W ≠ q := blk_ne h2.blk kx (by decide)
    have hok := h2.ok hw r hr3
    have HW := hide0 hw
    have HX := hide0 hx
    have hMl : ∀ b ∈ M, b < w2.heap.size := fun b hb => (h2.hM b hb).2
    have HTR := hide0 (ofTrue (len := zs.length) h2 (by omega) HB2.out)
    by_cases k4 : K = 4
    · have HAD := hide0 (nadd_any M W n.toNat (P r) q f (G r) vv zs w2 hla hx kx hok hMl hqM c0m c2 (fun w' k => vec_at (owns_block h2.vo (fun b hb hob => k.block b hb (fun e => by simp at e; exact owns_ne h2.vo kx (by decide) b hob e)))) hzb hPne hWq)
      subst k4
      clear h2 hla hw hx c0 c1 c2 c3 k1 k2 k6 k8 ex kx hok hMl c0m hqM hm hmn
      go_wp2_with fail
      refine HAD.out.mono ?_
      rintro e w3 ⟨rfl, hS⟩
      obtain ⟨G', h3, hb3⟩ := H2.out.ofCall HW.out hr3 HX.out hS
      have HP := hide0 (ofTrue (len := zs.length) h3 (by omega) (HB2.out.trans hb3))
      clear hS h3 hb3
      go_wp2
      go_ret
      exact ⟨rfl, HP.out⟩
    by_cases k9 : K = 9
    · have HCU := hide0 (cut_any M (.pointer (some ⟨W, 0, none⟩)) n.toNat (P r) q f (G r) Q w2 hla hx hok hMl)
      subst k9
      clear h2 hla hw hx c0 c1 c2 c3 k1 k2 k6 k8 ex kx hok hMl c0m hqM hm hmn k4
      go_wp2_with fail
      refine HCU.out.mono ?_
      rintro e w3 ⟨⟨v, rfl⟩, hS⟩
      obtain ⟨G', h3, hb3⟩ := H2.out.ofCut HW.out hr3 hS
      have HP := hide0 (ofTrue (len := zs.length) h3 (by omega) (HB2.out.trans hb3))
      clear hS h3 hb3
      go_wp2
      go_ret
      exact ⟨rfl, HP.out⟩
    by_cases k10 : K = 10
    · have HSH := hide0 (shows_any M W n.toNat (P r) q f (G r) w2 hla hx kx hok.nowOK c0m)
      subst k10
      clear h2 hla hw hx c0 c1 c2 c3 k1 k2 k6 k8 ex kx hok hMl c0m hqM hm hmn k4 k9
      go_wp2_with fail
      refine HSH.out.mono ?_
      rintro e w3 ⟨rfl, hS⟩
      have HP := hide0 (ofTrue (len := zs.length) (H2.out.step hS hB2) (by omega) (HB2.out.trans (hS.mono hB2)))
      clear hS
      go_wp2
      go_ret
      exact ⟨rfl, HP.out⟩
    by_cases k5 : K = 5
    · subst k5
      have HMN := hide0 hmn
      rw [hmn] at kx hok
      have HSH := hide0 (show_any q m (G r).now f w2 kx hok.nowOK.n1 hok.nowOK.n3 hok.nowOK.fits)
      have HNO := hide0 hok.nowOK
      have HRT0 := hide0 (fun (w0 : World) (v0 : Value) (kk : RowsAt w0 v0 (basisRows m (G r).now)) => rtextN_any m (G r).now v0 w0 hok.nowOK kk)
      generalize txt m (G r).now = tx at *
      have hee := eqlB tx
      have HMM := hide0 hm
      clear h2 hla hw hx c0 c1 c2 c3 k1 k2 k6 k8 ex kx hok hMl c0m hqM k4 k9 k10 hm hmn
      go_wp2_with fail
      refine HSH.out.mono ?_
      rintro e w3 ⟨rfl, hb3⟩
      have h3 := H2.out.step hb3 hB2
      have HB3 := hide0 (HB2.out.trans (hb3.mono hB2))
      have HSE := hide0 (send_any B W n _ vv bv bag tx w3 h3.blk h3.bo h3.bl h3.size)
      have H3 := hide0 h3
      clear h3 hb3 o0 o1 o2 o3 x0
      go_wp2_with fail
      refine HSE.out.mono ?_
      rintro e w4 ⟨⟨v, rfl⟩, hS⟩
      obtain ⟨M', bv', bag', h4, hb4⟩ := H3.out.ofSend hS
      have HB4 := hide0 (HB3.out.trans hb4)
      obtain ⟨c0, c1, c2, c3⟩ := h4.cells
      have c0m : w4.cell? ⟨W, 0, none⟩ = some (.int .i64 (m : Nat)) := by rw [c0, HMM.out]
      have hla := h4.la r hr3
      have d5 : w4.cell? ⟨P r, 5, none⟩ = some (G r).nv := (LN.six hla).2.2.2.2.2
      have hlanw := hla.nw.now
      rw [HMN.out] at hlanw
      obtain ⟨na, nc', hnv⟩ := hlanw.slice
      rw [hnv] at d5
      have hRN : RowsAt w4 (.slice na (basisRows m (G r).now).length nc') (basisRows m (G r).now) := by rw [hnv] at hlanw; exact hlanw
      have HRT := hide0 (HRT0.out w4.drew (.slice na (basisRows m (G r).now).length nc') (hRN.below (Below.refl _ w4).drew))
      have H4 := hide0 h4
      generalize (basisRows m (G r).now).length = nl at *
      clear hS h4 hb4 c0 c1 c2 c3 hla hnv hRN hlanw
      go_upto_region 27 with fail
      go_cut [4] (fun u4 wx => u4 = .bool true ∧ Below w4.heap.size w4 wx)
      case first =>
        go_region_held3 (fun w' => w'.cell? ⟨W, 0, none⟩ = some (.int .i64 (m : Nat)) ∧ w'.cell? ⟨P r, 5, none⟩ = some (.slice na nl nc'))
          (go_keep)
          ((go_at_call 50; refine HRT.out.mono ?_; rintro e w5 ⟨rfl, hb5⟩
            have hB5 : Below w4.heap.size w4 w5 := (Below.refl _ w4).drew.trans hb5
            have g1 := cell_below hB5 c0m
            have g2 := cell_below hB5 d5))
        all_goals (go_wp2_with fail)
        all_goals go_meet
        all_goals exact ⟨rfl, hB5⟩
      case rest =>
      rename World => wC
      obtain ⟨rfl, hB5⟩ := hcut
      have HP := hide0 (ofTrue (len := zs.length) (H4.out.step hB5 H4.out.size) (by omega) (HB4.out.trans (hB5.mono H4.out.size)))
      clear hB5 c0m d5
      go_wp2
      go_ret
      exact ⟨rfl, HP.out⟩
    by_cases k7 : K = 7
    · subst k7
      obtain ⟨ba, bc, rfl⟩ := h2.bo.at.slice
      by_cases hz : bag.length = 0
      · have hgt : decide (((bag.length : Nat) : Int) > 0) = false := decide_eq_false (by omega)
        clear h2 hla hw hx c0 c1 c2 k1 k2 k6 k8 ex kx hok hMl c0m hqM k4 k9 k10 k5 hm hmn
        generalize bag.length = bl at *
        go_wp2
        go_ret
        exact ⟨rfl, HTR.out⟩
      · obtain ⟨t, htp, ht⟩ := lpick_det Q (bag.length : Int) hQ0.1 hQ0.2 (by omega) (by have := h2.bl; omega)
        have HPT := hide0 htp
        have hgt : decide (((bag.length : Nat) : Int) > 0) = true := decide_eq_true (by omega)
        have htl : t < bag.length := by omega
        obtain ⟨bb, bo, rfl, hcb⟩ := h2.bo.at.cellAt (i := t) htl
        have hbo0 : bo = 0 := by
          rcases h2.bo.2 with ⟨h1, _⟩ | ⟨g, cap, cur, h1, _⟩
          · cases h1
          · cases h1; rfl
        subst hbo0
        rw [Nat.zero_add] at hcb
        have hbq : bb ≠ P r ∧ bb ≠ q := ⟨owns_ne h2.bo hla.blk (by decide) bb rfl, owns_ne h2.bo kx (by decide) bb rfl⟩
        have hol : w.heap.size ≠ P r ∧ w.heap.size ≠ q := ⟨by have := HPL.out r hr3; omega, by have := HQL.out r hr3 q f hx; omega⟩
        generalize bag.getD t ⟨#[]⟩ = sm at *
        have HDE := hide0 (deliver_any M W n.toNat (P r) q f (G r) sm w2.drew (hla.step (Below.refl _ w2).drew) hx kx.drew hok hMl hqM c0m hPne hWq)
        have hbl := World.block_lt_of_cell? w2 _ hcb
        have hol2 := World.block_lt_of_cell? w2 _ o2
        have hWl := World.block_lt_of_cell? w2 _ c3
        generalize hbll : bag.length = bl at *
        clear h2 hla hw hx c0 c1 c2 k1 k2 k6 k8 ex kx hok hMl c0m hqM k4 k9 k10 k5 htp hm hmn
        go_upto_region 32 with fail
        go_cut [4] (fun u4 wx => u4 = .bool true ∧ CallPost M n.toNat (P r) q w2.drew wx)
        case first =>
          go_region_held3 (fun w' => w'.cell? ⟨W, 3, none⟩ = some (.slice (some ⟨bb, 0, none⟩) bl bc) ∧ w'.cell? ⟨w.heap.size, 2, none⟩ = some (.int .i64 Q) ∧ w'.cell? ⟨bb, t, none⟩ = some (.string sm))
            (go_keep)
            (first
              | (go_at_call 63; refine (HPT.out _).mono ?_; rintro e w' ⟨rfl, hq'⟩; subst hq')
              | (go_at_call 69; refine HDE.out.mono ?_; rintro e w3 ⟨rfl, hS⟩
                 have hk3 : Keeps [P r, q] w2.drew w3 := by obtain ⟨_, _, _, _, _, _, k⟩ := hS; exact k
                 have g1 : w3.cell? ⟨W, 3, none⟩ = some (.slice (some ⟨bb, 0, none⟩) bl bc) := by rw [World.cell?_of_block (w := w2.drew) (hk3.block W hWl (by simp; exact ⟨hPne, hWq⟩))]; exact c3
                 have g2 : w3.cell? ⟨w.heap.size, 2, none⟩ = some (.int .i64 Q) := by rw [World.cell?_of_block (w := w2.drew) (hk3.block w.heap.size hol2 (by simp; exact hol))]; exact o2
                 have g3 : w3.cell? ⟨bb, t, none⟩ = some (.string sm) := by rw [World.cell?_of_block (w := w2.drew) (hk3.block bb hbl (by simp; exact hbq))]; exact hcb))
          all_goals (go_wp2_with fail)
          all_goals go_meet
          all_goals exact ⟨rfl, hS⟩
        case rest =>
        rename World => wC
        obtain ⟨rfl, hS⟩ := hcut
        obtain ⟨G', h3, hb3⟩ := (H2.out.drew hB2).ofCall HW.out hr3 HX.out hS
        have HP := hide0 (ofTrue (len := zs.length) h3 (by omega) (HB2.out.drew.trans hb3))
        clear hS h3 hb3
        go_wp2
        go_ret
        exact ⟨rfl, HP.out⟩
    have e3 : (K == 3 && false) = false := by simp
    have e4 : (K == 4) = false := by simpa using k4
    have e5 : (K == 5) = false := by simpa using k5
    have e7 : (K == 7) = false := by simpa using k7
    have e9 : (K == 9) = false := by simpa using k9
    have e10 : (K == 10) = false := by simpa using k10
    clear h2 hla hw hx c0 c1 c2 c3 k1 k2 k6 k8 ex kx hok hMl c0m hqM hm hmn k4 k9 k10 k5 k7
    by_cases k3 : K = 3
    · subst k3
      go_wp2
      go_ret
      exact ⟨rfl, HTR.out⟩
    · have e3 : (K == 3) = false := by simpa using k3
      clear k3
      go_wp2
      go_ret
      exact ⟨rfl, HTR.out⟩

end Go.Proofs.YtmlcblnndihjoaaGreat

namespace Go.Proofs.YtmlcblnndihjoaaGreat
open Go.RowKit

def dskV (gd : Nat) : Value := .slice (some ⟨gd, 0, none⟩) 8 8
def initC (gd : Nat) : Array Value := #[.pointer none, dskV gd, dskV gd, .slice none 0 0, .slice none 0 0, .slice none 0 0]
def blankD : List ByteArray := List.replicate 8 mark0

structure BegK (w : World) (B W : Nat) (n : Int) (nv : Value) (L : List (Nat × Nat)) : Prop where
  blk : Blk w W (worldC n nv (.slice none 0 0) (.slice none 0 0)) 95
  WB : B ≤ W
  row : w.ownsRow B 97 1 nv L.length (L.map fun q => .pointer (some ⟨q.1, 0, none⟩))
  each : ∀ q ∈ L, Blk w q.1 (initC q.2) 101 ∧ B ≤ q.1 ∧ Blk w q.2 (blankD.map Value.string).toArray 9
  nodup : (L.map (·.1)).Nodup

theorem BegK.keep {w w' : World} {B W : Nat} {n : Int} {nv nv' : Value} {L : List (Nat × Nat)} {N : List Nat} (h : BegK w B W n nv L) (k : Keeps N w w') (hN : ∀ b ∈ N, b = W ∨ nv.ownBlock = some b)
    (blk : Blk w' W (worldC n nv' (.slice none 0 0) (.slice none 0 0)) 95) : ∀ q ∈ L, Blk w' q.1 (initC q.2) 101 ∧ B ≤ q.1 ∧ Blk w' q.2 (blankD.map Value.string).toArray 9 := fun q hq => by
  obtain ⟨k1, k2, k3⟩ := h.each q hq
  refine ⟨k.blk k1 (fun e => ?_), k2, k.blk k3 (fun e => ?_)⟩
  · rcases hN _ e with e | e
    · exact blk_ne k1 h.blk (by decide) e
    · exact owns_ne h.row k1 (by decide) _ e rfl
  · rcases hN _ e with e | e
    · exact blk_ne k3 h.blk (by decide) e
    · exact owns_ne h.row k3 (by decide) _ e rfl

theorem tinfoP : (Tryz.prog.info? 97).map (fun i => (i.zero, i.size, i.bytes)) = some (some (.pointer none), 1, 8) := by kernel_rfl

def initG (gd : Nat) : LN := { x := none, dv := dskV gd, ov := dskV gd, wv := .slice none 0 0, av := .slice none 0 0, nv := .slice none 0 0, disk := blankD, old := blankD, wrote := [], was := zeroS, now := zeroS }

theorem basis_zero (m : Nat) : basisRows m zeroS = [] := by simp [basisRows, zeroS]

theorem strs_held {M : List Nat} {w : World} {g : Nat} (h : Blk w g (blankD.map Value.string).toArray 9) (hg : g ∉ M) : Held M w (fun w => StrsAt w (dskV g) blankD) := fun w' k => by
  have := strs_blk (cap := 8) (k.blk h hg)
  exact this

theorem blankD_len : blankD.length = 8 := by simp [blankD]

theorem initOK {m gd : Nat} (h1 : 1 ≤ m) (h3 : m ≤ 3) : LOK m (initG gd) :=
  ⟨blankD_len, blankD_len, by simp [initG], by simp [initG], NodeOK.zero h1 h3, NodeOK.zero h1 h3, (fun q f e => by cases e), fun _ => ⟨zeroS, false, blank_opens m, Or.inl rfl⟩⟩

/-- three nodes: the world of a script that begins -/
theorem beg_end {w : World} {B W : Nat} {n : Int} {nv : Value} {L : List (Nat × Nat)} (h : BegK w B W n nv L) (hl : L.length = 3) :
    ∃ nb nc P G M, WW w B W nb nc n P G M (.slice none 0 0) (.slice none 0 0) [] [] ∧ B ≤ w.heap.size := by
  have hrow := h.row
  rw [hl] at hrow
  obtain ⟨nb, nc, hv, hnb, hc⟩ := ownsRow_cell hrow (by omega)
  match L, hl with
  | [(p0, d0), (p1, d1), (p2, d2)], _ =>
    obtain ⟨a0, b0, e0⟩ := h.each (p0, d0) (by simp)
    obtain ⟨a1, b1, e1⟩ := h.each (p1, d1) (by simp)
    obtain ⟨a2, b2, e2⟩ := h.each (p2, d2) (by simp)
    have hnd := h.nodup
    simp at hnd
    obtain ⟨⟨n01, n02⟩, n12⟩ := hnd
    have kW := h.blk
    have hnbB := (hrow.lt nb (by rw [hv]; rfl)).2
    have knb : ∃ cur, Blk w nb cur 97 := by
      rcases hrow.2 with ⟨h1, _⟩ | ⟨g, cap, cur, h1, _, h3, _⟩
      · rw [hv] at h1; cases h1
      · rw [hv] at h1
        cases h1
        exact ⟨cur, h3⟩
    obtain ⟨cur, knb⟩ := knb
    have hM : ∀ {b : Nat} {cs : Array Value} {T : TypeId}, Blk w b cs T → T ≠ 95 → T ≠ 101 → b ∉ [W, p0, p1, p2] := fun {b cs T} k t1 t2 e => by
      simp at e
      rcases e with e | e | e | e
      · subst e; exact blk_ne k kW t1 rfl
      · subst e; exact blk_ne k a0 t2 rfl
      · subst e; exact blk_ne k a1 t2 rfl
      · subst e; exact blk_ne k a2 t2 rfl
    have hLA : ∀ {p d : Nat}, Blk w p (initC d) 101 → p ∈ [W, p0, p1, p2] → Blk w d (blankD.map Value.string).toArray 9 → LAt [W, p0, p1, p2] w n.toNat p (initG d) := fun {p d} ka kp kd => by
      have hs := strs_held kd (hM kd (by decide) (by decide))
      refine ⟨ka, kp, hs, hs, Held.pure (fun w => writesAt_nil w _ _), Held.pure (fun w => ?_), Held.pure (fun w => ?_)⟩
      · show RowsAt w _ (basisRows n.toNat zeroS)
        rw [basis_zero]; exact Or.inl ⟨rfl, _, _, rfl⟩
      · show RowsAt w _ (basisRows n.toNat zeroS)
        rw [basis_zero]; exact Or.inl ⟨rfl, _, _, rfl⟩
    have hWB := h.WB
    refine ⟨nb, nc, fun i => if i = 0 then p0 else if i = 1 then p1 else p2, fun i => if i = 0 then initG d0 else if i = 1 then initG d1 else initG d2, [W, p0, p1, p2], ⟨?_, by simp, ?_, ?_, ?_, ?_, ?_, ?_, ?_, ?_, World.ownsRow_nil _ _ _ _, (fun b hb => by cases hb), World.ownsRow_nil _ _ _ _, (fun b hb => by cases hb), by simp⟩, by have := kW.lt; omega⟩
    · rw [← hv]; exact kW
    · intro b hb
      simp at hb
      rcases hb with e | e | e | e <;> subst e
      · exact ⟨hWB, kW.lt⟩
      · exact ⟨b0, a0.lt⟩
      · exact ⟨b1, a1.lt⟩
      · exact ⟨b2, a2.lt⟩
    · intro w' k i hi
      have hb := k.blk knb (hM knb (by decide) (by decide))
      have := hc i hi
      rw [knb.cell] at this
      rw [hb.cell, this]
      have : i = 0 ∨ i = 1 ∨ i = 2 := by omega
      rcases this with rfl | rfl | rfl <;> rfl
    · intro i hi
      have : i = 0 ∨ i = 1 ∨ i = 2 := by omega
      rcases this with rfl | rfl | rfl
      · exact hLA a0 (by simp) e0
      · exact hLA a1 (by simp) e1
      · exact hLA a2 (by simp) e2
    · intro i j hi hj hne
      have : i = 0 ∨ i = 1 ∨ i = 2 := by omega
      have : j = 0 ∨ j = 1 ∨ j = 2 := by omega
      rcases ‹i = 0 ∨ i = 1 ∨ i = 2› with rfl | rfl | rfl <;> rcases ‹j = 0 ∨ j = 1 ∨ j = 2› with rfl | rfl | rfl <;> first | exact absurd rfl hne | (simp; first | exact n01 | exact n02 | exact n12 | exact fun e => n01 e.symm | exact fun e => n02 e.symm | exact fun e => n12 e.symm)
    · intro hw i hi
      unfold Wide at hw
      have : i = 0 ∨ i = 1 ∨ i = 2 := by omega
      rcases this with rfl | rfl | rfl <;> exact initOK (by omega) (by omega)
    · intro hw i hi
      have : i = 0 ∨ i = 1 ∨ i = 2 := by omega
      rcases this with rfl | rfl | rfl <;> exact ⟨rfl, blankD_len⟩
    · intro i hi q f e
      have : i = 0 ∨ i = 1 ∨ i = 2 := by omega
      rcases this with rfl | rfl | rfl <;> cases e
    · intro i j hi hj hne q f q' f' e
      have : i = 0 ∨ i = 1 ∨ i = 2 := by omega
      rcases this with rfl | rfl | rfl <;> cases e

set_option maxRecDepth 100000 in
set_option maxHeartbeats 8000000 in
theorem begun_any (n : Int) (w : World) :
    Calls Tryz.prog 39 #[.int .i64 n] w fun e w' => (∃ W nb nc P G M, e = .returned (.pointer (some ⟨W, 0, none⟩)) ∧ WW w' w.heap.size W nb nc n P G M (.slice none 0 0) (.slice none 0 0) [] []) ∧ Below w.heap.size w w' := by
  obtain ⟨i0, hi, hz0, hz1, hz2⟩ := info_parts tinfoP
  have HI : Hid (Tryz.prog.info? 97 = some i0 ∧ i0.zero = some (.pointer none) ∧ i0.size = 1 ∧ i0.bytes = 8) := ⟨hi, hz0, hz1, hz2⟩
  have HBL := hide0 (fun w0 => blank_any w0)
  have kW0 := Blk.new w #[.int .i64 n, .slice none 0 0, .slice none 0 0, .slice none 0 0] 95 rfl
  have h0 : BegK (w.alloc (.cells #[.int .i64 n, .slice none 0 0, .slice none 0 0, .slice none 0 0] 95)) w.heap.size w.heap.size n (.slice none 0 0) [] := ⟨kW0, Nat.le_refl _, World.ownsRow_nil _ _ _ _, by simp, by simp⟩
  have H0 := hide0 h0
  clear hi hz0 hz1 hz2 kW0 h0
  go_enter Tryz.func39, Tryz.ntmps39
  go_wp2
  go_loopg [4, 5] (3) (fun mm i u5 wr => ∃ (k : Nat) (nv : Value) (L : List (Nat × Nat)), i = .int .i64 (k : Nat) ∧ k + mm = 3 ∧ L.length = k ∧ BegK wr w.heap.size w.heap.size n nv L ∧ Below w.heap.size w wr)
  case atStart => exact ⟨0, _, [], rfl, by omega, rfl, H0.out, (Below.refl _ w).alloc (Nat.le_refl _) _⟩
  case round =>
    obtain ⟨k, nv, L, rfl, hk, hL, hM, hB⟩ := hrel
    have HM := hide0 hM
    have HB := hide0 hB
    have hsB := hB.size
    by_cases hlt : k < 3
    · have hlt' : (k : Int) < 3 := by omega
      clear hM hB
      go_wp2_with fail
      refine (HBL.out _).mono ?_
      rintro e w1 ⟨⟨gd, rfl, hgd, kgd⟩, hb1⟩
      have hbl : (List.replicate 8 mark0).length = 8 := by simp
      rw [hbl]
      have h1 : BegK w1 w.heap.size w.heap.size n nv L := ⟨HM.out.blk.below hb1 HM.out.blk.lt, Nat.le_refl _, ownsRow_below HM.out.row hb1 (Nat.le_refl _), HM.out.keep (nv' := nv) (keeps_of hb1 []) (by simp) (HM.out.blk.below hb1 HM.out.blk.lt), HM.out.nodup⟩
      have hs1 := hb1.size
      have hs1' : w.heap.size ≤ w1.heap.size := by omega
      have HB1 := hide0 (HB.out.trans (hb1.mono hsB))
      have c1 : w1.cell? ⟨w.heap.size, 1, none⟩ = some nv := h1.blk.cell 1
      have HN1 : Hid (∃ a c, nv = .slice a k c) := by
        show ∃ a c, nv = .slice a k c
        rcases h1.row.2 with ⟨q1, q2⟩ | ⟨g, cap, cur, q1, _⟩
        · exact ⟨none, 0, by rw [q1]; rw [hL] at q2; rw [q2]⟩
        · exact ⟨_, cap, by rw [q1, hL]⟩
      obtain ⟨na, nc, rfl⟩ := HN1.out
      have hrow := h1.row
      rw [hL] at hrow
      have hne := owns_ne h1.row h1.blk (by decide)
      have HNE := hide0 hne
      have H1 := hide0 h1
      have hWlt := h1.blk.lt
      obtain ⟨hi, hz0, hz1, hz2⟩ := HI.out
      have HKG := hide0 kgd
      clear hb1 kgd hbl h1 hne
      go_wp2_with (at_builtin; refine wpList_append_lies _ rfl (.tmp 18) (.tmp 23) 92 rfl w.heap.size 97 i0 (.pointer none) 1 8 Tryz.underlying92 hi hz0 hz1 hz2 rfl (by decide) _ _ _ rfl (World.ownsRow.alloc (World.ownsRow.alloc hrow _) _) ⟨w1.heap.size + 1, 0, none⟩ 1 1 [.pointer (some ⟨w1.heap.size, 0, none⟩)] rfl rfl (World.news_of_block (cs := #[.pointer (some ⟨w1.heap.size, 0, none⟩)]) (t := 97) (fr := (0, 0)) (Blk.new _ _ _ (by simp))) (by intro u hu; simp at hu; subst hu; rfl) (by omega) (by unfold maxLen; omega) (by omega) (by simp; omega) _ rfl ?_; intro g2 cap2 w3 hown1 hgrow hat hglt; have kW3 : Blk w3 w.heap.size (worldC n (.slice na k nc) (.slice none 0 0) (.slice none 0 0)) 95 := (hgrow.block w.heap.size (by simp; omega) (fun e => HNE.out _ e.symm rfl)).trans (Blk.alloc (Blk.alloc H1.out.blk _) _); have f3 := kW3.frozen 1; have e3 : w3.cell? ⟨w.heap.size, 1, none⟩ = some (.slice na k nc) := kW3.cell 1; have HKW3 := hide0 kW3; clear kW3)
      go_roundg (gk - 1)
      case measure => omega
      case rel =>
        have k3 : Keeps (w.heap.size :: ownB (.slice na k nc)) w1 w3 := (((Keeps.refl _ w1).alloc _).alloc _).grown hgrow (fun j hj => Or.inl (List.mem_cons_of_mem _ (Option.mem_toList.2 hj)))
        have k4 := k3.set (p := ⟨w.heap.size, 1, none⟩) (Or.inl (by simp)) (.slice (some ⟨g2, 0, none⟩) (k + 1) cap2)
        have hown2 : w3.ownsRow w.heap.size 97 1 (.slice (some ⟨g2, 0, none⟩) (k + 1) cap2) (L ++ [(w1.heap.size, gd)]).length ((L ++ [(w1.heap.size, gd)]).map fun q => .pointer (some ⟨q.1, 0, none⟩)) := by
          rw [List.length_append, List.map_append, hL]; exact hown1
        have hgW := owns_ne hown2 HKW3.out (by decide) g2 rfl
        have hkW : Blk (w3.setCell ⟨w.heap.size, 1, none⟩ (.slice (some ⟨g2, 0, none⟩) (k + 1) cap2)) w.heap.size (worldC n (.slice (some ⟨g2, 0, none⟩) (k + 1) cap2) (.slice none 0 0) (.slice none 0 0)) 95 := by
          have := HKW3.out.set 1 (.slice (some ⟨g2, 0, none⟩) (k + 1) cap2)
          unfold worldC at this ⊢
          simpa using this
        have hold := H1.out.keep k4 (fun b hb => by
          rw [List.mem_cons] at hb
          rcases hb with e | e
          · exact Or.inl e
          · exact Or.inr (Option.mem_toList.1 e)) hkW
        have hkn : Blk (w3.setCell ⟨w.heap.size, 1, none⟩ (.slice (some ⟨g2, 0, none⟩) (k + 1) cap2)) w1.heap.size (initC gd) 101 := by
          refine Blk.other ?_ (by show w1.heap.size ≠ w.heap.size; omega) _
          refine (hgrow.block w1.heap.size (by simp; omega) (fun e => by have := (H1.out.row.lt _ e.symm).2; omega)).trans ?_
          exact Blk.alloc (Blk.new w1 (initC gd) _ rfl) _
        have hkd : Blk (w3.setCell ⟨w.heap.size, 1, none⟩ (.slice (some ⟨g2, 0, none⟩) (k + 1) cap2)) gd (blankD.map Value.string).toArray 9 := by
          refine k4.blk HKG.out (fun e => ?_)
          rw [List.mem_cons] at e
          rcases e with e | e
          · exact blk_ne HKG.out H1.out.blk (by decide) e
          · exact owns_ne H1.out.row HKG.out (by decide) gd (Option.mem_toList.1 e) rfl
        refine ⟨k + 1, _, L ++ [(w1.heap.size, gd)], by go_num, by omega, by rw [List.length_append, hL]; rfl, ⟨hkW, Nat.le_refl _, ?_, ?_, ?_⟩, ?_⟩
        · exact owns_block hown2 (fun b hb hob => ((Keeps.refl [w.heap.size] w3).set (p := ⟨w.heap.size, 1, none⟩) (Or.inl (by simp)) _).block b hb (fun e => by simp at e; subst e; exact hgW (Option.some.inj hob)))
        · intro q hq
          rw [List.mem_append] at hq
          rcases hq with hq | hq
          · exact hold q hq
          · simp at hq
            rw [hq]
            exact ⟨hkn, hs1', hkd⟩
        · rw [List.map_append, List.nodup_append]
          refine ⟨H1.out.nodup, by simp, fun a ha b hb => ?_⟩
          simp at hb
          rw [hb]
          obtain ⟨q, hq, e⟩ := List.mem_map.1 ha
          have := (H1.out.each q hq).1.lt
          rw [← e]
          intro e2
          rw [e2] at this
          exact absurd this (Nat.lt_irrefl _)
        · exact HB1.out.trans ((k4.below (fun b hb => by
            rw [List.mem_cons] at hb
            rcases hb with e | e
            · omega
            · exact (H1.out.row.lt b (Option.mem_toList.1 e)).1) hs1'))
    · have hd : decide ((k : Int) < 3) = false := by simp; omega
      have hk3 : L.length = 3 := by omega
      obtain ⟨nb, nc, P, G, M, hWW, _⟩ := beg_end hM hk3
      have HWW := hide0 hWW
      clear hM hB hWW
      go_wp2
      go_ret
      exact ⟨⟨_, nb, nc, P, G, M, rfl, HWW.out⟩, HB.out⟩

end Go.Proofs.YtmlcblnndihjoaaGreat

namespace Go.Proofs.YtmlcblnndihjoaaGreat
open Go.RowKit

structure OpG where
  K : Int
  A : Int
  Q : Int
  S : ByteArray

def OpG.ok (o : OpG) : Prop := (-9223372036854775808 ≤ o.A ∧ o.A ≤ 9223372036854775807) ∧ (-9223372036854775808 ≤ o.Q ∧ o.Q ≤ 9223372036854775807)
def op0 : OpG := ⟨0, 0, 0, ⟨#[]⟩⟩

/-- the slice value v reads as the steps ops -/
def OpsAt (w : World) (v : Value) (ops : List OpG) : Prop :=
  (ops = [] ∧ ∃ a cap, v = .slice a 0 cap) ∨
  (0 < ops.length ∧ ∃ b o cap, v = .slice (some ⟨b, o, none⟩) ops.length cap ∧ ∀ i, i < ops.length → w.cell? ⟨b, o + i * 4, none⟩ = some (.int .i64 (ops.getD i op0).K) ∧ w.cell? ⟨b, o + i * 4 + 1, none⟩ = some (.int .i64 (ops.getD i op0).A) ∧ w.cell? ⟨b, o + i * 4 + 2, none⟩ = some (.int .i64 (ops.getD i op0).Q) ∧ w.cell? ⟨b, o + i * 4 + 3, none⟩ = some (.string (ops.getD i op0).S))

theorem OpsAt.slice {w : World} {v : Value} {ops : List OpG} (h : OpsAt w v ops) : ∃ a cap, v = .slice a ops.length cap := by
  rcases h with ⟨rfl, a, cap, rfl⟩ | ⟨_, b, o, cap, rfl, _⟩
  · exact ⟨a, cap, rfl⟩
  · exact ⟨_, cap, rfl⟩
theorem OpsAt.cellAt {w w' : World} {a : Option Addr} {m cap : Nat} {ops : List OpG} (h : OpsAt w (.slice a m cap) ops) (hb : Below w.heap.size w w') {i : Nat} (hi : i < ops.length) :
    ∃ b o, a = some ⟨b, o, none⟩ ∧ w'.cell? ⟨b, o + i * 4, none⟩ = some (.int .i64 (ops.getD i op0).K) ∧ w'.cell? ⟨b, o + i * 4 + 1, none⟩ = some (.int .i64 (ops.getD i op0).A) ∧ w'.cell? ⟨b, o + i * 4 + 2, none⟩ = some (.int .i64 (ops.getD i op0).Q) ∧ w'.cell? ⟨b, o + i * 4 + 3, none⟩ = some (.string (ops.getD i op0).S) := by
  rcases h with ⟨rfl, _⟩ | ⟨_, b, o, c, e, hc⟩
  · simp at hi
  · cases e
    obtain ⟨h1, h2, h3, h4⟩ := hc i hi
    exact ⟨b, o, rfl, cell_below hb h1, cell_below hb h2, cell_below hb h3, cell_below hb h4⟩

theorem step_any {B W nb nc : Nat} {n : Int} {P : Nat → Nat} {G : Nat → LN} {M : List Nat} {vv bv : Value} {zs : List Int} {bag : List ByteArray} (o : OpG) (ho : o.ok) (w : World) (h : WW w B W nb nc n P G M vv bv zs bag) (hz : zs.length < 1073741824) :
    Calls Tryz.prog 40 #[.pointer (some ⟨W, 0, none⟩), opV o.K o.A o.Q o.S] w fun e w' => e = .returned (.bool true) ∧ StepPost B W nb nc n P zs.length w w' := by
  by_cases k1 : o.K = 1
  · rw [k1]; exact step1 o.A o.Q o.S w h hz
  by_cases k2 : o.K = 2
  · rw [k2]; exact step2 o.A o.Q o.S w h
  by_cases k6 : o.K = 6
  · rw [k6]; exact step6 o.A o.Q o.S w h
  by_cases k8 : o.K = 8
  · rw [k8]; exact step8 o.A o.Q o.S w h ho.1
  exact stepN o.K o.A o.Q o.S w h ho.1 ho.2 (by omega) k1 k2 k6 k8

set_option maxRecDepth 100000 in
set_option maxHeartbeats 8000000 in
theorem looks_any {B W nb nc : Nat} {n : Int} {P : Nat → Nat} {G : Nat → LN} {M : List Nat} {vv bv : Value} {zs : List Int} {bag : List ByteArray} (w : World) (h : WW w B W nb nc n P G M vv bv zs bag) :
    Calls Tryz.prog 41 #[.pointer (some ⟨W, 0, none⟩)] w fun e w' => e = .returned (.bool true) ∧ Below w.heap.size w w' := by
  have H := hide0 h
  clear h
  go_enter Tryz.func41, Tryz.ntmps41
  go_wp2
  go_loopg [3, 4] (3) (fun mm i u4 wr => ∃ k : Nat, i = .int .i64 (k : Nat) ∧ k + mm = 3 ∧ Below w.heap.size w wr)
  case atStart => exact ⟨0, rfl, by omega, Below.refl _ _⟩
  case round =>
    obtain ⟨k, rfl, hk, hB⟩ := hrel
    have HB := hide0 hB
    by_cases hlt : k < 3
    · have hlt' : (k : Int) < 3 := by omega
      have h2 := H.out.step hB H.out.size
      obtain ⟨c0, c1, c2, c3⟩ := h2.cells
      have hnd := h2.nd.now k hlt
      have hla := h2.la k hlt
      have x0 := (LN.six hla).1
      have hs := hB.size
      cases hx : (G k).x with
      | none =>
        have ex : (G k).xv = .pointer none := by unfold LN.xv; rw [hx]; rfl
        rw [ex] at x0
        clear h2 hla hx c0 c2 c3 ex hB
        go_wp2
        go_roundg (gk - 1)
        case measure => omega
        case rel => exact ⟨k + 1, by go_num, by omega, HB.out⟩
      | some qf =>
        obtain ⟨q, f⟩ := qf
        have hw : Wide n := Classical.byContradiction fun hn => by have := (h2.bad hn k hlt).1; rw [hx] at this; cases this
        obtain ⟨m, hm⟩ : ∃ m : Nat, n = (m : Int) := ⟨n.toNat, by unfold Wide at hw; omega⟩
        have hmn : n.toNat = m := by omega
        obtain ⟨kx, hqM⟩ := h2.xb k hlt q f hx
        have ex : (G k).xv = .pointer (some ⟨q, 0, none⟩) := by unfold LN.xv; rw [hx]; rfl
        rw [ex] at x0
        have hok := h2.ok hw k hlt
        have HSH := hide0 (shows_any M W n.toNat (P k) q f (G k) wr hla hx kx hok.nowOK (by rw [c0, hm]; rfl))
        clear h2 hla hx c0 c2 c3 ex hB hw hm hmn kx hqM hok
        go_wp2_with fail
        refine HSH.out.mono ?_
        rintro e w3 ⟨rfl, hb3⟩
        have HB3 := hide0 (HB.out.trans (hb3.mono hs))
        clear hb3 hnd c1 x0
        go_wp2
        go_roundg (gk - 1)
        case measure => omega
        case rel => exact ⟨k + 1, by go_num, by omega, HB3.out⟩
    · have hd : decide ((k : Int) < 3) = false := by simp; omega
      clear hB
      go_wp2
      go_ret
      exact ⟨rfl, HB.out⟩

set_option maxRecDepth 100000 in
set_option maxHeartbeats 8000000 in
theorem plays_any (n but an : Int) (v : Value) (ops : List OpG) (w : World) (hv : OpsAt w v ops) (hok : ∀ o ∈ ops, o.ok) :
    Calls Tryz.prog 20 #[.int .i64 n, v, .int .i64 but, .int .i64 an] w fun e w' => e = .returned (.bool true) ∧ Below w.heap.size w w' := by
  have HV := hide0 hv
  have HOK : Hid (∀ i, i < ops.length → (ops.getD i op0).ok) := fun i hi => by
    rw [List.getD_eq_getElem?_getD, List.getElem?_eq_getElem hi]; exact hok _ (List.getElem_mem hi)
  have HBE := hide0 (fun w0 => begun_any n w0)
  obtain ⟨a, cap, rfl⟩ := hv.slice
  clear hv hok
  generalize hln : ops.length = ln at *
  have HLN := hide0 hln
  clear hln
  by_cases hbig : ln > 1073741824
  · have hgt : decide ((ln : Int) > 1073741824) = true := decide_eq_true (by omega)
    go_enter Tryz.func20, Tryz.ntmps20
    go_wp2
    go_ret
    exact ⟨rfl, Below.refl _ _⟩
  have hgt : decide ((ln : Int) > 1073741824) = false := decide_eq_false (by omega)
  go_enter Tryz.func20, Tryz.ntmps20
  go_wp2_with fail
  refine (HBE.out _).mono ?_
  rintro e w1 ⟨⟨W, nb, nc, P, G0, M0, rfl, hW0⟩, hb1⟩
  have HW0 := hide0 hW0
  have HB1 := hide0 hb1
  clear hW0 hb1
  go_wp2
  go_loopg [10, 11] (ln) (fun mm i u11 wr => ∃ (k : Nat) (G : Nat → LN) (M : List Nat) (vv bv : Value) (zs : List Int) (bag : List ByteArray), i = .int .i64 (k : Nat) ∧ k + mm = ln ∧ WW wr w.heap.size W nb nc n P G M vv bv zs bag ∧ zs.length ≤ k ∧ Below w.heap.size w wr)
  case atStart => exact ⟨0, G0, M0, _, _, [], [], rfl, by omega, HW0.out, by simp, HB1.out⟩
  case round =>
    obtain ⟨k, G, M, vv, bv, zs, bag, rfl, hk, hW, hz, hB⟩ := hrel
    have HB := hide0 hB
    have HW := hide0 hW
    by_cases hlt : k < ln
    · have hlt' : (k : Int) < (ln : Int) := by omega
      obtain ⟨b, o, rfl, c0, c1, c2, c3⟩ := HV.out.cellAt hB (i := k) (by rw [HLN.out]; exact hlt)
      have hop := HOK.out k hlt
      have HST := hide0 (step_any (ops.getD k op0) hop wr hW (by omega))
      generalize ops.getD k op0 = og at *
      obtain ⟨K, A, Q, S⟩ := og
      dsimp only at c0 c1 c2 c3 HST
      clear hW hB hop
      cases hb1 : (K == but)
      · cases hb2 : (K == an)
        · unfold opV at HST
          go_wp2_with fail
          refine HST.out.mono ?_
          rintro e w3 ⟨rfl, G', M', vv', bv', zs', bag', h3, hz3, hb3⟩
          have HB3 := hide0 (HB.out.trans hb3)
          have H3 := hide0 h3
          clear h3 hb3
          go_wp2
          go_roundg (gk - 1)
          case measure => omega
          case rel => exact ⟨k + 1, G', M', vv', bv', zs', bag', by go_num, by omega, H3.out, by omega, HB3.out⟩
        · go_wp2
          go_roundg (gk - 1)
          case measure => omega
          case rel => exact ⟨k + 1, G, M, vv, bv, zs, bag, by go_num, by omega, HW.out, by omega, HB.out⟩
      · go_wp2
        go_roundg (gk - 1)
        case measure => omega
        case rel => exact ⟨k + 1, G, M, vv, bv, zs, bag, by go_num, by omega, HW.out, by omega, HB.out⟩
    · have hd : decide ((k : Int) < (ln : Int)) = false := by simp; omega
      have HLO := hide0 (looks_any wr hW)
      clear hB hW
      go_wp2_with fail
      refine HLO.out.mono ?_
      rintro e w3 ⟨rfl, hb3⟩
      have HB3 := hide0 (HB.out.trans (hb3.mono HW.out.size))
      clear hb3
      go_wp2
      go_ret
      exact ⟨rfl, HB3.out⟩

end Go.Proofs.YtmlcblnndihjoaaGreat

namespace Go.Proofs.YtmlcblnndihjoaaGreat
open Go.RowKit Go.ChangeShapes Go.WideShapes Go.Deep

theorem ops_fields : ((Tryz.prog.fieldsOf 70).toList.map fun f => (f.type, f.offset)) = [(3, 0), (3, 1), (3, 2), (9, 3)] := by kernel_rfl

theorem addr_none {w : World} {x : Addr} {v : Value} (h : w.cell? x = some v) : x = ⟨x.block, x.off, none⟩ := by
  obtain ⟨b, o, sp⟩ := x
  cases sp with
  | none => rfl
  | some k => simp [World.cell?] at h; split at h <;> simp at h

section
variable {H : Type} {enc : TypeId × Value → H} {w : World} {base : Nat} {spare : Nat → Bool} {held : Bool}

set_option maxRecDepth 100000 in
theorem open_op {n : Nat} {cs : List Value} {y : DataW H × List MemPlace} (h : DataW.trod enc Tryz.prog w base spare held n 70 cs = some y) :
    ∃ o : OpG, o.ok ∧ cs = [.int .i64 o.K, .int .i64 o.A, .int .i64 o.Q, .string o.S] := by
  have he : Tryz.prog.underlying 70 = some (.struct (Tryz.prog.fieldsOf 70)) := by kernel_rfl
  obtain ⟨xs, k, hk, hxy, hlen, hxl, hf⟩ := DataW.trod_struct he h
  have hc4 : Tryz.prog.cellsOf 70 = 4 := by kernel_rfl
  have hc3 : Tryz.prog.cellsOf 3 = 1 := by kernel_rfl
  have hc9 : Tryz.prog.cellsOf 9 = 1 := by kernel_rfl
  rw [hc4] at hlen
  have hfs := ops_fields
  generalize Tryz.prog.fieldsOf 70 = fs at *
  obtain ⟨l⟩ := fs
  match l, hfs with
  | [f0, f1, f2, f3], hfs =>
    simp only [List.map_cons, List.map_nil, List.cons.injEq, Prod.mk.injEq, and_true] at hfs
    obtain ⟨⟨t0, o0⟩, ⟨t1, o1⟩, ⟨t2, o2⟩, ⟨t3, o3⟩⟩ := hfs
    match cs, hlen with
    | [v0, v1, v2, v3], _ =>
      match xs, hxl with
      | [y0, y1, y2, y3], _ =>
        have g0 := hf 0 f0 rfl
        have g1 := hf 1 f1 rfl
        have g2 := hf 2 f2 rfl
        have g3 := hf 3 f3 rfl
        simp [t0, o0, hc3] at g0
        simp [t1, o1, hc3] at g1
        simp [t2, o2, hc3] at g2
        simp [t3, o3, hc9] at g3
        have hu3 : Tryz.prog.underlying 3 = some (.int .i64) := by kernel_rfl
        have hu9 : Tryz.prog.underlying 9 = some .string := by kernel_rfl
        obtain ⟨z0, e0, _, w0⟩ := DataW.trod_int hu3 g0
        obtain ⟨z1, e1, _, w1⟩ := DataW.trod_int hu3 g1
        obtain ⟨z2, e2, _, w2⟩ := DataW.trod_int hu3 g2
        obtain ⟨s3, e3, _, _⟩ := DataW.trod_string hu9 g3
        simp only [Lit.wf, Bool.and_eq_true, decide_eq_true_eq] at w0 w1 w2
        simp only [List.cons.injEq, and_true] at e0 e1 e2 e3
        subst e0 e1 e2 e3
        exact ⟨⟨z0, z1, z2, s3⟩, ⟨w1, w2⟩, rfl⟩

theorem open_ops {fuel : Nat} {a : Option Addr} {len cap : Nat} {x : DataW H × List MemPlace} (h : DataW.trod enc Tryz.prog w base spare held fuel 22 [.slice a len cap] = some x) :
    ∃ ops : List OpG, OpsAt w (.slice a len cap) ops ∧ ∀ o ∈ ops, o.ok := by
  rcases open_slice (e := 70) (by kernel_rfl) h with ⟨h0, _⟩ | ⟨a', len', cap', m, n, D, Pl, hcs, hb, hl, hm, hmm, _, hx⟩
  · simp only [List.cons.injEq, and_true] at h0
    exact ⟨[], Or.inl ⟨rfl, none, 0, h0⟩, by simp⟩
  · simp only [List.cons.injEq, and_true, Value.slice.injEq] at hcs
    obtain ⟨rfl, rfl, rfl⟩ := hcs
    have hlm : len ≤ m := by rw [hmm]; split <;> omega
    have hc4 : Tryz.prog.cellsOf 70 = 4 := by kernel_rfl
    have each : ∀ i, i < len → ∃ o : OpG, o.ok ∧ w.cell? (a'.add (i * 4)) = some (.int .i64 o.K) ∧ w.cell? (a'.add (i * 4 + 1)) = some (.int .i64 o.A) ∧ w.cell? (a'.add (i * 4 + 2)) = some (.int .i64 o.Q) ∧ w.cell? (a'.add (i * 4 + 3)) = some (.string o.S) := by
      intro i hi
      obtain ⟨cs', h1, h2⟩ := hx i (by omega)
      rw [hc4] at h1
      obtain ⟨o, hok, rfl⟩ := open_op h2
      obtain ⟨_, hlen, hcell⟩ := World.cells?_some h1
      have e0 := hcell 0 (by simp)
      have e1 := hcell 1 (by simp)
      have e2 := hcell 2 (by simp)
      have e3 := hcell 3 (by simp)
      rw [add_add] at e0 e1 e2 e3
      exact ⟨o, hok, by simpa using e0, by simpa using e1, by simpa using e2, by simpa using e3⟩
    by_cases h0 : len = 0
    · subst h0
      exact ⟨[], Or.inl ⟨rfl, _, _, rfl⟩, by simp⟩
    · obtain ⟨_, _, q0, _⟩ := each 0 (by omega)
      have ea : a' = ⟨a'.block, a'.off, none⟩ := by
        have : a'.add (0 * 4) = a' := by simp [Addr.add]
        rw [this] at q0
        exact addr_none q0
      have hadd : ∀ j, a'.add j = ⟨a'.block, a'.off + j, none⟩ := fun j => by rw [ea]; exact addr_add0 _ _ _
      let g : Nat → OpG := fun i => if hi : i < len then Classical.choose (each i hi) else op0
      have hg : ∀ i, i < len → (g i).ok ∧ w.cell? (a'.add (i * 4)) = some (.int .i64 (g i).K) ∧ w.cell? (a'.add (i * 4 + 1)) = some (.int .i64 (g i).A) ∧ w.cell? (a'.add (i * 4 + 2)) = some (.int .i64 (g i).Q) ∧ w.cell? (a'.add (i * 4 + 3)) = some (.string (g i).S) := fun i hi => by
        have e : g i = Classical.choose (each i hi) := by simp only [g, dif_pos hi]
        rw [e]; exact Classical.choose_spec (each i hi)
      refine ⟨(List.range len).map g, Or.inr ⟨by simp; omega, a'.block, a'.off, cap, ?_, fun i hi => ?_⟩, ?_⟩
      · rw [List.length_map, List.length_range, ← ea]
      · have hi' : i < len := by simpa using hi
        have hgd : ((List.range len).map g).getD i op0 = g i := by
          rw [List.getD_eq_getElem?_getD, List.getElem?_map, List.getElem?_range hi']; rfl
        rw [hgd]
        obtain ⟨_, q1, q2, q3, q4⟩ := hg i hi'
        rw [hadd] at q1 q2 q3 q4
        exact ⟨q1, q2, q3, q4⟩
      · intro o ho
        obtain ⟨i, hi, rfl⟩ := List.mem_map.1 ho
        exact (hg i (List.mem_range.1 hi)).1

end

end Go.Proofs.YtmlcblnndihjoaaGreat
