/- What l4Copy of the reference returns (promise 3). -/
import Derived.Test.YtepkkeclkdlheaaCkN
import Derived.Test.YtepkkeclkdlheaaAny
import Derived.Test.YtepkkeclkdlheaaApp
namespace Go.Proofs.Ytepkkeclkdlheaa
open Go.RowKit Go.ChangeShapes
set_option linter.unusedSimpArgs false
set_option linter.unusedVariables false
set_option maxRecDepth 100000

/-- A row of integers on the way: not made, made, filled; it lies in block g. -/
def ChI (W : World) (G : Nat) (bm ba : Bool) (um ua : Value) (l : List Int) (g : Nat) : Prop :=
  bm = true → (G ≤ g ∧ g < W.heap.size) ∧ (ba = true → Is W G 3 ua l ∧ ua.ownBlock = some g) ∧ (ba = false → Is W G 3 um [] ∧ um.ownBlock = some g)

/-- A row of pivots on the way. -/
def ChP (W : World) (G : Nat) (bm ba : Bool) (um ua : Value) (ps : List Pv) (g : Nat) : Prop :=
  bm = true → (G ≤ g ∧ g < W.heap.size) ∧ (ba = true → Op W G ua ps ∧ ua.ownBlock = some g) ∧ (ba = false → Op W G um [] ∧ um.ownBlock = some g)

theorem ChI.keep {W W' : World} {G : Nat} {bm ba : Bool} {um ua : Value} {l : List Int} {g : Nat} (h : ChI W G bm ba um ua l g) (hs : W.heap.size ≤ W'.heap.size) (hk : bm = true → g < W.heap.size → W'.heap[g]? = W.heap[g]?) : ChI W' G bm ba um ua l g := by
  intro hb
  obtain ⟨⟨h1, h2⟩, h3, h4⟩ := h hb
  have hq := hk hb h2
  refine ⟨⟨h1, Nat.lt_of_lt_of_le h2 hs⟩, fun ha => ?_, fun ha => ?_⟩
  · obtain ⟨q1, q2⟩ := h3 ha
    exact ⟨owns_eq q1 fun g' hg' => by obtain rfl : g = g' := by rw [q2] at hg'; exact Option.some.inj hg'
                                       exact hq, q2⟩
  · obtain ⟨q1, q2⟩ := h4 ha
    exact ⟨owns_eq q1 fun g' hg' => by obtain rfl : g = g' := by rw [q2] at hg'; exact Option.some.inj hg'
                                       exact hq, q2⟩

theorem ChP.keep {W W' : World} {G : Nat} {bm ba : Bool} {um ua : Value} {l : List Pv} {g : Nat} (h : ChP W G bm ba um ua l g) (hs : W.heap.size ≤ W'.heap.size) (hk : bm = true → g < W.heap.size → W'.heap[g]? = W.heap[g]?) : ChP W' G bm ba um ua l g := by
  intro hb
  obtain ⟨⟨h1, h2⟩, h3, h4⟩ := h hb
  have hq := hk hb h2
  refine ⟨⟨h1, Nat.lt_of_lt_of_le h2 hs⟩, fun ha => ?_, fun ha => ?_⟩
  · obtain ⟨q1, q2⟩ := h3 ha
    exact ⟨owns_eq q1 fun g' hg' => by obtain rfl : g = g' := by rw [q2] at hg'; exact Option.some.inj hg'
                                       exact hq, q2⟩
  · obtain ⟨q1, q2⟩ := h4 ha
    exact ⟨owns_eq q1 fun g' hg' => by obtain rfl : g = g' := by rw [q2] at hg'; exact Option.some.inj hg'
                                       exact hq, q2⟩

theorem ChI.make (W : World) (G : Nat) (ba : Bool) (hba : ba = false) (ua : Value) (l : List Int) (hG : G ≤ W.heap.size) : ChI (W.alloc (.cells #[] 3)) G true ba (.slice (some ⟨W.heap.size, 0, none⟩) 0 0) ua l W.heap.size :=
  fun _ => ⟨⟨hG, by simp⟩, (fun h => by rw [hba] at h; cases h), fun _ => ⟨Is.made _ _ _ hG, rfl⟩⟩

theorem ChP.make (W : World) (G : Nat) (ba : Bool) (hba : ba = false) (ua : Value) (l : List Pv) (hG : G ≤ W.heap.size) : ChP (W.alloc (.cells #[] 147)) G true ba (.slice (some ⟨W.heap.size, 0, none⟩) 0 0) ua l W.heap.size :=
  fun _ => ⟨⟨hG, by simp⟩, (fun h => by rw [hba] at h; cases h), fun _ => ⟨World.ownsRow_made W #[] 0 hG (by unfold maxLen; omega) rfl, rfl⟩⟩

/-- Which operations each operation waits for. -/
def cpDeps : Nat → List Nat
  | 2 => [1] | 3 => [0, 2] | 6 => [5] | 7 => [4, 6, 3] | 10 => [9] | 11 => [8, 10, 7] | 12 => [3, 7, 11] | 13 => [12, 11] | _ => []

def CpCl (b : Nat → Bool) : Prop := ∀ i, b i = true → ∀ j ∈ cpDeps i, b j = true

theorem CpCl.set {b : Nat → Bool} {i : Nat} (h : CpCl b) (hd : ∀ j ∈ cpDeps i, b j = true) : CpCl (fun k => if k = i then true else b k) := by
  intro k hk j hj
  show (if j = i then true else b j) = true
  by_cases hji : j = i
  · rw [if_pos hji]
  rw [if_neg hji]
  by_cases hki : k = i
  · subst hki; exact hd j hj
  · have hk : (if k = i then true else b k) = true := hk
    rw [if_neg hki] at hk
    exact h k hk j hj

theorem CpCl.low {b : Nat → Bool} (h : CpCl b) (i j : Nat) (hj : j ∈ cpDeps i) (hb : b j = false) : b i = false := by
  cases hi : b i with
  | false => rfl
  | true => have := h i hi j hj; rw [hb] at this; cases this

theorem addr_add (b o j : Nat) : (⟨b, o, none⟩ : Addr).add j = ⟨b, o + j, none⟩ := by
  by_cases h : j = 0
  · subst h; simp [Addr.add]
  · simp [Addr.add, h]

theorem ints_news {w : World} {B : Nat} {a : Option Addr} {n c : Nat} {l : List Int} (h : Ints w B (.slice a n c) l) : ∀ q, a = some q → ∀ j v, (intVs l)[j]? = some v → w.cell? (q.add j) = some v := by
  intro q hq j v hj
  subst hq
  obtain ⟨a, cap, e, -, -, h3⟩ := h
  have hjl : j < l.length := by
    have := (List.getElem?_eq_some_iff.1 hj).1
    simpa [intVs] using this
  obtain ⟨b, o, ea, -, hc⟩ := h3 j hjl
  have : q = ⟨b, o, none⟩ := by
    injection e with e1 e2 e3
    rw [ea] at e1
    exact Option.some.inj e1
  subst this
  have hv : v = .int .i64 l[j] := by simp [intVs, hjl] at hj; exact hj.symm
  rw [hv]
  show w.cell? ((⟨b, o, none⟩ : Addr).add j) = _
  rw [addr_add]
  exact hc

theorem pvs_news {w : World} {B : Nat} {a : Option Addr} {n c : Nat} {ps : List Pv} (h : Pvs w B (.slice a n c) ps) : ∀ q, a = some q → ∀ j v, (pvVs ps)[j]? = some v → w.cell? (q.add j) = some v := by
  intro q hq j v hj
  subst hq
  obtain ⟨a, cap, e, -, -, h3⟩ := h
  have hjl : j < ps.length * 2 := by
    have := (List.getElem?_eq_some_iff.1 hj).1
    rwa [pvVs_length] at this
  obtain ⟨k, hk⟩ : ∃ k, k = j / 2 := ⟨_, rfl⟩
  have hkl : k < ps.length := by omega
  obtain ⟨b, o, ea, -, hc1, hc2⟩ := h3 k hkl
  have : q = ⟨b, o, none⟩ := by
    injection e with e1 e2 e3
    rw [ea] at e1
    exact Option.some.inj e1
  subst this
  by_cases hp : j = k * 2
  · subst hp
    rw [pvVs_get0 ps k hkl] at hj
    rw [← Option.some.inj hj]
    rw [addr_add]
    exact hc1
  · have hp : j = k * 2 + 1 := by omega
    subst hp
    rw [pvVs_get1 ps k hkl] at hj
    rw [← Option.some.inj hj]
    rw [addr_add]
    exact hc2

theorem pvVs_cell : ∀ (ps : List Pv), ∀ u ∈ pvVs ps, u.oneCell' = true
  | [], u, hu => by simp [pvVs] at hu
  | p :: ps, u, hu => by
    simp only [pvVs, List.mem_cons] at hu
    rcases hu with rfl | rfl | hu
    · rfl
    · rfl
    · exact pvVs_cell ps u hu

theorem owns_raise {W : World} {base : Nat} {e : TypeId} {size : Nat} {v : Value} {n : Nat} {xs : List Value} (h : W.ownsRow base e size v n xs) {g : Nat} (hg : v.ownBlock = some g) : W.ownsRow g e size v n xs := by
  refine ⟨h.1, ?_⟩
  rcases h.2 with ⟨rfl, hn⟩ | ⟨g', cap, cur, rfl, hb, rest⟩
  · simp [Value.ownBlock] at hg
  · obtain rfl : g' = g := by simpa [Value.ownBlock] using hg
    exact .inr ⟨g', cap, cur, rfl, Nat.le_refl _, rest⟩

theorem ints_nil {w : World} {B n c : Nat} {l : List Int} (h : Ints w B (.slice none n c) l) : l.length = 0 := by
  obtain ⟨a, cap, e, -, -, h3⟩ := h
  by_cases hz : l.length = 0
  · exact hz
  obtain ⟨b, o, ea, -⟩ := h3 0 (by omega)
  injection e with e1 e2 e3
  rw [ea] at e1
  cases e1

theorem pvs_nil {w : World} {B n c : Nat} {ps : List Pv} (h : Pvs w B (.slice none n c) ps) : ps.length = 0 := by
  obtain ⟨a, cap, e, -, -, h3⟩ := h
  by_cases hz : ps.length = 0
  · exact hz
  obtain ⟨b, o, ea, -⟩ := h3 0 (by omega)
  injection e with e1 e2 e3
  rw [ea] at e1
  cases e1

/-- What holds in the middle of the copy's region, whatever has been done. -/
def CpMid (l r : List Int) (ps : List Pv) (a1 a2 a3 : Option Addr) (c1 c2 c3 n : Nat) (w1 : World) (b : Nat → Bool) (a : Act) (W : World) : Prop :=
  ∃ u3 u4 u5 u6 u7 u8 u9 u10 u11 u12 u13 u14 u15 g1 g2 g3, a = ⟨#[.agg #[.slice a1 l.length c1, .slice a2 r.length c2, .slice a3 ps.length c3], .pointer (some ⟨n, 0, none⟩), .pointer (some ⟨n + 1, 0, none⟩), u3, u4, u5, u6, u7, u8, u9, u10, u11, u12, u13, u14, u15], []⟩ ∧ Below w1.heap.size w1 W ∧
    ChI W w1.heap.size (b 0) (b 3) u3 u6 l g1 ∧ ChI W w1.heap.size (b 4) (b 7) u7 u10 r g2 ∧ ChP W w1.heap.size (b 8) (b 11) u11 u14 ps g3 ∧
    (b 0 = true → b 4 = true → g1 ≠ g2) ∧ (b 0 = true → b 8 = true → g1 ≠ g3) ∧ (b 4 = true → b 8 = true → g2 ≠ g3) ∧
    (b 1 = true → u4 = .pointer (some ⟨n, 0, none⟩)) ∧ (b 2 = true → u5 = .slice a1 l.length c1) ∧
    (b 5 = true → u8 = .pointer (some ⟨n, 1, none⟩)) ∧ (b 6 = true → u9 = .slice a2 r.length c2) ∧
    (b 9 = true → u12 = .pointer (some ⟨n, 2, none⟩)) ∧ (b 10 = true → u13 = .slice a3 ps.length c3) ∧
    (b 12 = true → u15 = .agg #[u6, u10, u14]) ∧
    CpCl b

/-- What holds when the copy's region is through. -/
def CpFin (l r : List Int) (ps : List Pv) (a1 a2 a3 : Option Addr) (c1 c2 c3 n : Nat) (w : World) (a : Act) (W : World) : Prop :=
  ∃ u3 u4 u5 u6 u7 u8 u9 u10 u11 u12 u13 u14 u15 x1 k1 x2 k2 x3 k3 lo hi n1 h1 n2 h2 n3 h3, a = ⟨#[.agg #[.slice a1 l.length c1, .slice a2 r.length c2, .slice a3 ps.length c3], .pointer (some ⟨n, 0, none⟩), .pointer (some ⟨n + 1, 0, none⟩), u3, u4, u5, u6, u7, u8, u9, u10, u11, u12, u13, u14, u15], []⟩ ∧ Kn w W [(n, #[.slice a1 l.length c1, .slice a2 r.length c2, .slice a3 ps.length c3], 25), (n + 1, #[.slice x1 l.length k1, .slice x2 r.length k2, .slice x3 ps.length k3], 25)] ∧ w.heap.size ≤ lo ∧ hi ≤ W.heap.size ∧ OC W (.slice x1 l.length k1) (.slice x2 r.length k2) (.slice x3 ps.length k3) l r ps lo hi n1 h1 n2 h2 n3 h3

set_option maxHeartbeats 4000000 in
theorem sCopy_any (v : Value) (l r : List Int) (ps : List Pv) (w : World) (B : Nat) (hv : Ck w B v l r ps) (hB : B ≤ w.heap.size) (hl : l.length ≤ 1048576) (hr : r.length ≤ 1048576) (hp : ps.length ≤ 1048576) :
    Calls Try.prog 94 #[v] w (RetOC w l r ps) := by
  obtain ⟨a1, c1, a2, c2, a3, c3, rfl, i1, i2, i3⟩ := hv.form
  have X := hide (Kn.two w #[.slice a1 l.length c1, .slice a2 r.length c2, .slice a3 ps.length c3] #[.slice none 0 0, .slice none 0 0, .slice none 0 0] 25 25)
  obtain ⟨w1, hw1⟩ : ∃ w1, w1 = (w.alloc (.cells #[.slice a1 l.length c1, .slice a2 r.length c2, .slice a3 ps.length c3] 25)).alloc (.cells #[.slice none 0 0, .slice none 0 0, .slice none 0 0] 25) := ⟨_, rfl⟩
  have hz1 := hide (show w1.heap.size = w.heap.size + 1 + 1 by rw [hw1]; simp)
  rw [← hw1] at X
  have I1 := hide (fun (W : World) (h : Below w1.heap.size w1 W) => (i1.below X.out.below hB).below h (Nat.le_trans hB X.out.below.size))
  have I2 := hide (fun (W : World) (h : Below w1.heap.size w1 W) => (i2.below X.out.below hB).below h (Nat.le_trans hB X.out.below.size))
  have I3 := hide (fun (W : World) (h : Below w1.heap.size w1 W) => (i3.below X.out.below hB).below h (Nat.le_trans hB X.out.below.size))
  obtain ⟨z1, z2, z3⟩ := hv.nils
  clear i1 i2 i3 hv
  go_enter Try.func94, Try.ntmps94
  go_wp2_with fail
  rw [← hw1]
  clear hw1
  obtain ⟨n, hn⟩ : ∃ n, n = w.heap.size := ⟨_, rfl⟩
  rw [← hn] at X hz1 ⊢
  have HN := hide hn
  clear hn
  refine wp_region_any (by kernel_rfl) ?_
  refine wpAny_inv (fun listed a W => (∃ b : Nat → Bool, (∀ k, k < 14 → listed.getD k false = b k) ∧ b 13 = false ∧ CpMid l r ps a1 a2 a3 c1 c2 c3 n w1 b a W) ∨ ((∀ k, k < 14 → listed.getD k false = true) ∧ CpFin l r ps a1 a2 a3 c1 c2 c3 n w a W)) ?step ?fin _ _ _ _ (by simp) (by simp) ?init
  case init =>
    refine .inl ⟨fun _ => false, fun k hk => by simp [Array.getD], rfl, undef, undef, undef, undef, undef, undef, undef, undef, undef, undef, undef, undef, undef, 0, 0, 0, rfl, (Below.refl _ _).drew, ?_⟩
    refine ⟨(fun h => by cases h), (fun h => by cases h), (fun h => by cases h), (fun h => by cases h), (fun h => by cases h), (fun h => by cases h), (fun h => by cases h), (fun h => by cases h), (fun h => by cases h), (fun h => by cases h), (fun h => by cases h), (fun h => by cases h), (fun h => by cases h), (fun _ h => by cases h)⟩
  case fin =>
    intro listed a W hI hs hnil
    have hall := ready_nil (depsBack_of (by kernel_rfl)) hs hnil
    rcases hI with ⟨b, hb, h13, -⟩ | ⟨-, hF⟩
    · have := hb 13 (by omega)
      rw [hall 13 (by simp)] at this
      rw [h13] at this
      cases this
    · obtain ⟨u3, u4, u5, u6, u7, u8, u9, u10, u11, u12, u13, u14, u15, x1, k1, x2, k2, x3, k3, lo, hi, n1, h1, n2, h2, n3, h3, rfl, K, q1, q2, OCx⟩ := hF
      have z0 := K.cell 1 0 rfl rfl
      have z1 := K.cell 1 1 rfl rfl
      have z2 := K.cell 1 2 rfl rfl
      go_wp2_with fail
      exact bodyPost_ret (v := .agg #[.slice x1 l.length k1, .slice x2 r.length k2, .slice x3 ps.length k3]) (by simp [results, Try.results94, go_sem, z0, z1, z2]) rfl ⟨_, _, _, lo, hi, n1, h1, n2, h2, n3, h3, rfl, q1, q2, OCx, K.below⟩
  case step =>
    intro listed a W i hI hs hi hli hdep
    rcases hI with ⟨b, hb, h13, u3, u4, u5, u6, u7, u8, u9, u10, u11, u12, u13, u14, u15, g1, g2, g3, rfl, hB, C1, C2, C3, n12, n13, n23, e4, e5, e8, e9, e12, e13, e15, cl⟩ | ⟨hall, -⟩
    · have hL := fun k (hk : k < 14) => (listed_set (listed := listed) (i := i) (k := k) (by rw [hs]; exact hi)).trans (by rw [hb k hk])
      have hbi : b i = false := by
        rw [← hb i hi]
        have : i < listed.size := by rw [hs]; exact hi
        simp only [Array.getD, this, dif_pos] at hli ⊢
        exact hli
      have hi' : i < 14 := hi
      have hcs : i = 0 ∨ i = 1 ∨ i = 2 ∨ i = 3 ∨ i = 4 ∨ i = 5 ∨ i = 6 ∨ i = 7 ∨ i = 8 ∨ i = 9 ∨ i = 10 ∨ i = 11 ∨ i = 12 ∨ i = 13 := by omega
      rcases hcs with rfl | rfl | rfl | rfl | rfl | rfl | rfl | rfl | rfl | rfl | rfl | rfl | rfl | rfl
      · have d := hdep _ rfl
        have D : ∀ j ∈ cpDeps 0, b j = true := by intro j hj; cases hj
        clear d
        refine wpOp_step (o := _) rfl fun K' hK => ?_
        rw [if_pos (by go_simp)]
        have hz : b 3 = false := cl.low 3 0 (by simp [cpDeps]) hbi
        go_simp
        have hW : W.heap.size ≤ (W.alloc (.cells #[] 3)).heap.size := by simp
        have hO := fun k (hk : k < W.heap.size) => heap_alloc_old W (.cells #[] 3) hk
        exact hK _ _ (.inl ⟨fun k => if k = 0 then true else b k, hL, h13, _, _, _, _, _, _, _, _, _, _, _, _, _, W.heap.size, g2, g3, rfl, (hB.alloc hB.size _), (ChI.make W _ _ hz _ _ hB.size), (C2.keep hW fun _ h => hO _ h), (C3.keep hW fun _ h => hO _ h), (fun _ h e => by have := (C2 h).1.2; omega), (fun _ h e => by have := (C3 h).1.2; omega), n23, e4, e5, e8, e9, e12, e13, e15, cl.set D⟩)
      · have d := hdep _ rfl
        have D : ∀ j ∈ cpDeps 1, b j = true := by intro j hj; cases hj
        clear d
        refine wpOp_step (o := _) rfl fun K' hK => ?_
        rw [if_pos (by go_simp)]
        go_simp
        exact hK _ _ (.inl ⟨fun k => if k = 1 then true else b k, hL, h13, _, _, _, _, _, _, _, _, _, _, _, _, _, g1, g2, g3, rfl, hB, C1, C2, C3, n12, n13, n23, (fun _ => rfl), e5, e8, e9, e12, e13, e15, cl.set D⟩)
      · have d := hdep _ rfl
        have d1 : b 1 = true := (hb 1 (by omega)).symm.trans (d ⟨1, .data⟩ (by simp) rfl)
        have D : ∀ j ∈ cpDeps 2, b j = true := by
          intro j hj
          simp [cpDeps] at hj
          subst hj
          exact d1
        clear d
        refine wpOp_step (o := _) rfl fun K' hK => ?_
        rw [if_pos (by go_simp)]
        obtain rfl := e4 d1
        have cx := (X.out.up hB).cell 0 0 rfl rfl
        go_simp
        exact hK _ _ (.inl ⟨fun k => if k = 2 then true else b k, hL, h13, _, _, _, _, _, _, _, _, _, _, _, _, _, g1, g2, g3, rfl, hB, C1, C2, C3, n12, n13, n23, (fun _ => rfl), (fun _ => rfl), e8, e9, e12, e13, e15, cl.set D⟩)
      · have d := hdep _ rfl
        have d0 : b 0 = true := (hb 0 (by omega)).symm.trans (d ⟨0, .data⟩ (by simp) rfl)
        have d2 : b 2 = true := (hb 2 (by omega)).symm.trans (d ⟨2, .data⟩ (by simp) rfl)
        have D : ∀ j ∈ cpDeps 3, b j = true := by
          intro j hj
          simp [cpDeps] at hj
          rcases hj with rfl | rfl
          · exact d0
          · exact d2
        clear d
        refine wpOp_step (o := _) rfl fun K' hK => ?_
        rw [if_pos (by go_simp)]
        obtain rfl := e5 d2
        obtain ⟨⟨k1, k2⟩, -, k3⟩ := C1 d0
        obtain ⟨k3, k4⟩ := k3 hbi
        obtain ⟨i0, hi0, hi1, hi2, hi3⟩ := info_parts infoI
        refine append_wp W _ _ 22 rfl w1.heap.size 3 i0 _ 1 8 Try.underlying22 hi0 hi1 hi2 hi3 (by first | rfl | decide) (by decide) (by decide) u3 rfl k3 g1 k4 a1 l.length c1 (intVs l) rfl (fun h => ?_) (by simp [intVs]) (ints_news (I1.out W hB)) (intVs_cell l) hl hB.size ?_
        · refine ⟨?_, z1 h⟩
          subst h
          exact ints_nil (I1.out W hB)
        intro v' W' hown hgr hat
        obtain ⟨g', hg', hgo⟩ : ∃ g', v'.ownBlock = some g' ∧ (g' = g1 ∨ g' = W.heap.size) := by
          rcases hat with h | h
          · exact ⟨_, h, .inl rfl⟩
          · exact ⟨_, h, .inr rfl⟩
        have hlt := World.ownsRow.lt hown g' hg'
        have hB' := hB.grown hgr hB.size (by intro k hk; cases hk; exact k1)
        exact hK _ _ (.inl ⟨fun k => if k = 3 then true else b k, hL, h13, _, _, _, _, _, _, _, _, _, _, _, _, _, g', g2, g3, rfl, hB', (fun _ => ⟨hlt, fun _ => ⟨hown, hg'⟩, fun h => nomatch (show true = false from h)⟩), (C2.keep hgr.size fun hbq hq => hgr.block _ hq (by intro e; cases e; exact n12 d0 hbq rfl)), (C3.keep hgr.size fun hbq hq => hgr.block _ hq (by intro e; cases e; exact n13 d0 hbq rfl)), (fun _ h e => by have q1 := (C2 h).1.2; have q2 := n12 d0 h; omega), (fun _ h e => by have q1 := (C3 h).1.2; have q2 := n13 d0 h; omega), n23, e4, (fun _ => rfl), e8, e9, e12, e13, (fun h => absurd (show b 12 = true from h) (by rw [cl.low 12 3 (by simp [cpDeps]) hbi]; decide)), cl.set D⟩)
      · have d := hdep _ rfl
        have D : ∀ j ∈ cpDeps 4, b j = true := by intro j hj; cases hj
        clear d
        refine wpOp_step (o := _) rfl fun K' hK => ?_
        rw [if_pos (by go_simp)]
        have hz : b 7 = false := cl.low 7 4 (by simp [cpDeps]) hbi
        go_simp
        have hW : W.heap.size ≤ (W.alloc (.cells #[] 3)).heap.size := by simp
        have hO := fun k (hk : k < W.heap.size) => heap_alloc_old W (.cells #[] 3) hk
        exact hK _ _ (.inl ⟨fun k => if k = 4 then true else b k, hL, h13, _, _, _, _, _, _, _, _, _, _, _, _, _, g1, W.heap.size, g3, rfl, (hB.alloc hB.size _), (C1.keep hW fun _ h => hO _ h), (ChI.make W _ _ hz _ _ hB.size), (C3.keep hW fun _ h => hO _ h), (fun h _ e => by have := (C1 h).1.2; omega), n13, (fun _ h e => by have := (C3 h).1.2; omega), e4, e5, e8, e9, e12, e13, e15, cl.set D⟩)
      · have d := hdep _ rfl
        have D : ∀ j ∈ cpDeps 5, b j = true := by intro j hj; cases hj
        clear d
        refine wpOp_step (o := _) rfl fun K' hK => ?_
        rw [if_pos (by go_simp)]
        go_simp
        exact hK _ _ (.inl ⟨fun k => if k = 5 then true else b k, hL, h13, _, _, _, _, _, _, _, _, _, _, _, _, _, g1, g2, g3, rfl, hB, C1, C2, C3, n12, n13, n23, e4, e5, (fun _ => rfl), e9, e12, e13, e15, cl.set D⟩)
      · have d := hdep _ rfl
        have d5 : b 5 = true := (hb 5 (by omega)).symm.trans (d ⟨5, .data⟩ (by simp) rfl)
        have D : ∀ j ∈ cpDeps 6, b j = true := by
          intro j hj
          simp [cpDeps] at hj
          subst hj
          exact d5
        clear d
        refine wpOp_step (o := _) rfl fun K' hK => ?_
        rw [if_pos (by go_simp)]
        obtain rfl := e8 d5
        have cx := (X.out.up hB).cell 0 1 rfl rfl
        go_simp
        exact hK _ _ (.inl ⟨fun k => if k = 6 then true else b k, hL, h13, _, _, _, _, _, _, _, _, _, _, _, _, _, g1, g2, g3, rfl, hB, C1, C2, C3, n12, n13, n23, e4, e5, (fun _ => rfl), (fun _ => rfl), e12, e13, e15, cl.set D⟩)
      · have d := hdep _ rfl
        have d4 : b 4 = true := (hb 4 (by omega)).symm.trans (d ⟨4, .data⟩ (by simp) rfl)
        have d6 : b 6 = true := (hb 6 (by omega)).symm.trans (d ⟨6, .data⟩ (by simp) rfl)
        have d3 : b 3 = true := (hb 3 (by omega)).symm.trans (d ⟨3, .chain⟩ (by simp) rfl)
        have D : ∀ j ∈ cpDeps 7, b j = true := by
          intro j hj
          simp [cpDeps] at hj
          rcases hj with rfl | rfl | rfl
          · exact d4
          · exact d6
          · exact d3
        clear d
        refine wpOp_step (o := _) rfl fun K' hK => ?_
        rw [if_pos (by go_simp)]
        obtain rfl := e9 d6
        obtain ⟨⟨k1, k2⟩, -, k3⟩ := C2 d4
        obtain ⟨k3, k4⟩ := k3 hbi
        obtain ⟨i0, hi0, hi1, hi2, hi3⟩ := info_parts infoI
        refine append_wp W _ _ 22 rfl w1.heap.size 3 i0 _ 1 8 Try.underlying22 hi0 hi1 hi2 hi3 (by first | rfl | decide) (by decide) (by decide) u7 rfl k3 g2 k4 a2 r.length c2 (intVs r) rfl (fun h => ?_) (by simp [intVs]) (ints_news (I2.out W hB)) (intVs_cell r) hr hB.size ?_
        · refine ⟨?_, z2 h⟩
          subst h
          exact ints_nil (I2.out W hB)
        intro v' W' hown hgr hat
        obtain ⟨g', hg', hgo⟩ : ∃ g', v'.ownBlock = some g' ∧ (g' = g2 ∨ g' = W.heap.size) := by
          rcases hat with h | h
          · exact ⟨_, h, .inl rfl⟩
          · exact ⟨_, h, .inr rfl⟩
        have hlt := World.ownsRow.lt hown g' hg'
        have hB' := hB.grown hgr hB.size (by intro k hk; cases hk; exact k1)
        exact hK _ _ (.inl ⟨fun k => if k = 7 then true else b k, hL, h13, _, _, _, _, _, _, _, _, _, _, _, _, _, g1, g', g3, rfl, hB', (C1.keep hgr.size fun hbq hq => hgr.block _ hq (by intro e; cases e; exact n12 hbq d4 rfl)), (fun _ => ⟨hlt, fun _ => ⟨hown, hg'⟩, fun h => nomatch (show true = false from h)⟩), (C3.keep hgr.size fun hbq hq => hgr.block _ hq (by intro e; cases e; exact n23 d4 hbq rfl)), (fun h _ e => by have q1 := (C1 h).1.2; have q2 := n12 h d4; omega), n13, (fun _ h e => by have q1 := (C3 h).1.2; have q2 := n23 d4 h; omega), e4, e5, e8, (fun _ => rfl), e12, e13, (fun h => absurd (show b 12 = true from h) (by rw [cl.low 12 7 (by simp [cpDeps]) hbi]; decide)), cl.set D⟩)
      · have d := hdep _ rfl
        have D : ∀ j ∈ cpDeps 8, b j = true := by intro j hj; cases hj
        clear d
        refine wpOp_step (o := _) rfl fun K' hK => ?_
        rw [if_pos (by go_simp)]
        have hz : b 11 = false := cl.low 11 8 (by simp [cpDeps]) hbi
        go_simp
        have hW : W.heap.size ≤ (W.alloc (.cells #[] 147)).heap.size := by simp
        have hO := fun k (hk : k < W.heap.size) => heap_alloc_old W (.cells #[] 147) hk
        exact hK _ _ (.inl ⟨fun k => if k = 8 then true else b k, hL, h13, _, _, _, _, _, _, _, _, _, _, _, _, _, g1, g2, W.heap.size, rfl, (hB.alloc hB.size _), (C1.keep hW fun _ h => hO _ h), (C2.keep hW fun _ h => hO _ h), (ChP.make W _ _ hz _ _ hB.size), n12, (fun h _ e => by have := (C1 h).1.2; omega), (fun h _ e => by have := (C2 h).1.2; omega), e4, e5, e8, e9, e12, e13, e15, cl.set D⟩)
      · have d := hdep _ rfl
        have D : ∀ j ∈ cpDeps 9, b j = true := by intro j hj; cases hj
        clear d
        refine wpOp_step (o := _) rfl fun K' hK => ?_
        rw [if_pos (by go_simp)]
        go_simp
        exact hK _ _ (.inl ⟨fun k => if k = 9 then true else b k, hL, h13, _, _, _, _, _, _, _, _, _, _, _, _, _, g1, g2, g3, rfl, hB, C1, C2, C3, n12, n13, n23, e4, e5, e8, e9, (fun _ => rfl), e13, e15, cl.set D⟩)
      · have d := hdep _ rfl
        have d9 : b 9 = true := (hb 9 (by omega)).symm.trans (d ⟨9, .data⟩ (by simp) rfl)
        have D : ∀ j ∈ cpDeps 10, b j = true := by
          intro j hj
          simp [cpDeps] at hj
          subst hj
          exact d9
        clear d
        refine wpOp_step (o := _) rfl fun K' hK => ?_
        rw [if_pos (by go_simp)]
        obtain rfl := e12 d9
        have cx := (X.out.up hB).cell 0 2 rfl rfl
        go_simp
        exact hK _ _ (.inl ⟨fun k => if k = 10 then true else b k, hL, h13, _, _, _, _, _, _, _, _, _, _, _, _, _, g1, g2, g3, rfl, hB, C1, C2, C3, n12, n13, n23, e4, e5, e8, e9, (fun _ => rfl), (fun _ => rfl), e15, cl.set D⟩)
      · have d := hdep _ rfl
        have d8 : b 8 = true := (hb 8 (by omega)).symm.trans (d ⟨8, .data⟩ (by simp) rfl)
        have d10 : b 10 = true := (hb 10 (by omega)).symm.trans (d ⟨10, .data⟩ (by simp) rfl)
        have d7 : b 7 = true := (hb 7 (by omega)).symm.trans (d ⟨7, .chain⟩ (by simp) rfl)
        have D : ∀ j ∈ cpDeps 11, b j = true := by
          intro j hj
          simp [cpDeps] at hj
          rcases hj with rfl | rfl | rfl
          · exact d8
          · exact d10
          · exact d7
        clear d
        refine wpOp_step (o := _) rfl fun K' hK => ?_
        rw [if_pos (by go_simp)]
        obtain rfl := e13 d10
        obtain ⟨⟨k1, k2⟩, -, k3⟩ := C3 d8
        obtain ⟨k3, k4⟩ := k3 hbi
        obtain ⟨i0, hi0, hi1, hi2, hi3⟩ := info_parts infoP
        refine append_wp W _ _ 23 rfl w1.heap.size 147 i0 _ 2 16 Try.underlying23 hi0 hi1 hi2 hi3 (by first | rfl | decide) (by decide) (by decide) u11 rfl k3 g3 k4 a3 ps.length c3 (pvVs ps) rfl (fun h => ?_) (by simp [pvVs_length]) (pvs_news (I3.out W hB)) (pvVs_cell ps) hp hB.size ?_
        · refine ⟨?_, z3 h⟩
          subst h
          exact pvs_nil (I3.out W hB)
        intro v' W' hown hgr hat
        obtain ⟨g', hg', hgo⟩ : ∃ g', v'.ownBlock = some g' ∧ (g' = g3 ∨ g' = W.heap.size) := by
          rcases hat with h | h
          · exact ⟨_, h, .inl rfl⟩
          · exact ⟨_, h, .inr rfl⟩
        have hlt := World.ownsRow.lt hown g' hg'
        have hB' := hB.grown hgr hB.size (by intro k hk; cases hk; exact k1)
        exact hK _ _ (.inl ⟨fun k => if k = 11 then true else b k, hL, h13, _, _, _, _, _, _, _, _, _, _, _, _, _, g1, g2, g', rfl, hB', (C1.keep hgr.size fun hbq hq => hgr.block _ hq (by intro e; cases e; exact n13 hbq d8 rfl)), (C2.keep hgr.size fun hbq hq => hgr.block _ hq (by intro e; cases e; exact n23 hbq d8 rfl)), (fun _ => ⟨hlt, fun _ => ⟨hown, hg'⟩, fun h => nomatch (show true = false from h)⟩), n12, (fun h _ e => by have q1 := (C1 h).1.2; have q2 := n13 h d8; omega), (fun h _ e => by have q1 := (C2 h).1.2; have q2 := n23 h d8; omega), e4, e5, e8, e9, e12, (fun _ => rfl), (fun h => absurd (show b 12 = true from h) (by rw [cl.low 12 11 (by simp [cpDeps]) hbi]; decide)), cl.set D⟩)
      · have d := hdep _ rfl
        have d3 : b 3 = true := (hb 3 (by omega)).symm.trans (d ⟨3, .data⟩ (by simp) rfl)
        have d7 : b 7 = true := (hb 7 (by omega)).symm.trans (d ⟨7, .data⟩ (by simp) rfl)
        have d11 : b 11 = true := (hb 11 (by omega)).symm.trans (d ⟨11, .data⟩ (by simp) rfl)
        have D : ∀ j ∈ cpDeps 12, b j = true := by
          intro j hj
          simp [cpDeps] at hj
          rcases hj with rfl | rfl | rfl
          · exact d3
          · exact d7
          · exact d11
        clear d
        refine wpOp_step (o := _) rfl fun K' hK => ?_
        rw [if_pos (by go_simp)]
        have d0 : b 0 = true := cl 3 d3 0 (by simp [cpDeps])
        have d4 : b 4 = true := cl 7 d7 4 (by simp [cpDeps])
        have d8 : b 8 = true := cl 11 d11 8 (by simp [cpDeps])
        obtain ⟨o1, p1⟩ := (C1 d0).2.1 d3
        obtain ⟨o2, p2⟩ := (C2 d4).2.1 d7
        obtain ⟨o3, p3⟩ := (C3 d8).2.1 d11
        obtain ⟨x1, k1, rfl⟩ := o1.form
        obtain ⟨x2, k2, rfl⟩ := o2.form
        obtain ⟨x3, k3, rfl⟩ := o3.form
        go_simp
        exact hK _ _ (.inl ⟨fun k => if k = 12 then true else b k, hL, h13, _, _, _, _, _, _, _, _, _, _, _, _, _, g1, g2, g3, rfl, hB, C1, C2, C3, n12, n13, n23, e4, e5, e8, e9, e12, e13, (fun _ => rfl), cl.set D⟩)
      · have d := hdep _ rfl
        have d12 : b 12 = true := (hb 12 (by omega)).symm.trans (d ⟨12, .data⟩ (by simp) rfl)
        have d11 : b 11 = true := (hb 11 (by omega)).symm.trans (d ⟨11, .chain⟩ (by simp) rfl)
        have D : ∀ j ∈ cpDeps 13, b j = true := by
          intro j hj
          simp [cpDeps] at hj
          rcases hj with rfl | rfl
          · exact d12
          · exact d11
        clear d
        refine wpOp_step (o := _) rfl fun K' hK => ?_
        rw [if_pos (by go_simp)]
        have d3 : b 3 = true := cl 12 d12 3 (by simp [cpDeps])
        have d7 : b 7 = true := cl 12 d12 7 (by simp [cpDeps])
        have d0 : b 0 = true := cl 3 d3 0 (by simp [cpDeps])
        have d4 : b 4 = true := cl 7 d7 4 (by simp [cpDeps])
        have d8 : b 8 = true := cl 11 d11 8 (by simp [cpDeps])
        obtain ⟨o1, p1⟩ := (C1 d0).2.1 d3
        obtain ⟨o2, p2⟩ := (C2 d4).2.1 d7
        obtain ⟨o3, p3⟩ := (C3 d8).2.1 d11
        obtain ⟨x1, k1, rfl⟩ := o1.form
        obtain ⟨x2, k2, rfl⟩ := o2.form
        obtain ⟨x3, k3, rfl⟩ := o3.form
        obtain rfl := e15 d12
        have Y := X.out.up hB
        have f0 := Y.free 1 0 rfl
        have f1 := Y.free 1 1 rfl
        have f2 := Y.free 1 2 rfl
        have y0 := Y.cell 1 0 rfl rfl
        have y1 := Y.cell 1 1 rfl rfl
        have y2 := Y.cell 1 2 rfl rfl
        go_simp
        refine hK _ _ (.inr ⟨?_, _, _, _, _, _, _, _, _, _, _, _, _, _, x1, k1, x2, k2, x3, k3, w1.heap.size, W.heap.size, g1, g1 + 1, g2, g2 + 1, g3, g3 + 1, rfl, ?_, ?_, ?_, ?_⟩)
        · intro k hk
          rw [hL k hk]
          by_cases h : k = 13
          · rw [if_pos h]
          rw [if_neg h]
          have : k = 0 ∨ k = 1 ∨ k = 2 ∨ k = 3 ∨ k = 4 ∨ k = 5 ∨ k = 6 ∨ k = 7 ∨ k = 8 ∨ k = 9 ∨ k = 10 ∨ k = 11 ∨ k = 12 := by omega
          have d2 := cl 3 d3 2 (by simp [cpDeps])
          have d6 := cl 7 d7 6 (by simp [cpDeps])
          have d10 := cl 11 d11 10 (by simp [cpDeps])
          rcases this with rfl | rfl | rfl | rfl | rfl | rfl | rfl | rfl | rfl | rfl | rfl | rfl | rfl
          · exact d0
          · exact cl 2 d2 1 (by simp [cpDeps])
          · exact d2
          · exact d3
          · exact d4
          · exact cl 6 d6 5 (by simp [cpDeps])
          · exact d6
          · exact d7
          · exact d8
          · exact cl 10 d10 9 (by simp [cpDeps])
          · exact d10
          · exact d11
          · exact d12
        · exact ((Y.set 1 0 rfl _).set 1 1 rfl _).set 1 2 rfl _
        · exact X.out.below.size
        · exact (((Seg.setCell W (n + 1) 0 _).trans (Seg.setCell _ (n + 1) 1 _)).trans (Seg.setCell _ (n + 1) 2 _)).below.size
        · have hh := hz1.out
          obtain ⟨⟨a11, a12⟩, -⟩ := C1 d0
          obtain ⟨⟨a21, a22⟩, -⟩ := C2 d4
          obtain ⟨⟨a31, a32⟩, -⟩ := C3 d8
          have f12 := n12 d0 d4
          have f13 := n13 d0 d8
          have f23 := n23 d4 d8
          have w1' : Ow W (.slice x1 l.length k1) l g1 (g1 + 1) := ⟨⟨_, ⟨o1.zero, rfl⟩, by rw [p1]; simp⟩, by omega, by omega⟩
          have w2' : Ow W (.slice x2 r.length k2) r g2 (g2 + 1) := ⟨⟨_, ⟨o2.zero, rfl⟩, by rw [p2]; simp⟩, by omega, by omega⟩
          have w3' : Owp W (.slice x3 ps.length k3) ps g3 (g3 + 1) := ⟨owns_raise o3 p3, fun g hg => by rw [p3] at hg; cases hg; omega, by omega, by omega⟩
          have oc : OC W (.slice x1 l.length k1) (.slice x2 r.length k2) (.slice x3 ps.length k3) l r ps w1.heap.size W.heap.size g1 (g1 + 1) g2 (g2 + 1) g3 (g3 + 1) :=
            ⟨w1', w2', w3', ⟨a11, a21, a31⟩, ⟨by omega, by omega, by omega⟩, ⟨by omega, by omega, by omega⟩, hB.size, Nat.le_refl _⟩
          exact oc.seg (((Seg.setCell W (n + 1) 0 _).trans (Seg.setCell _ (n + 1) 1 _)).trans (Seg.setCell _ (n + 1) 2 _)) (.inr (by omega))
    · exfalso
      have h1 := hall i hi
      have : i < listed.size := by rw [hs]; exact hi
      simp only [Array.getD, this, dif_pos] at hli h1
      rw [hli] at h1
      cases h1

end Go.Proofs.Ytepkkeclkdlheaa
