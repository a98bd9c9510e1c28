import PyProof.Rows.All
import Wide.All
import OpenK.AllK
import Wide.FinOn
import HandS.ForMost
import HandS.Wide
import HandS.IsInst
import HandS.Codes
import HandS.AnyAll
import HandS.EndTab
import PyProof.GenCompD
import HandS.TupMul
import HandS.TupAny
import HandS.Exc
import HandS.TryOnly
import HandS.ExcOwn
import HandS.WordsExc
import HandS.ExcIs
import KE.DataCmp
import KE.GoesMore
import PySem.Challenge.RW_traymap_k04_all_fillings
set_option Elab.async false
set_option linter.all false
set_option maxRecDepth 100000
namespace Tm
open PySem PySem.Spec PyProof.Rows L2
/-! ### what leaves all that stood -/
theorem kp_ext {s t : Shared} (k : Keeps s t) : ∀ b o, s.heap.get? b = some o → t.heap.get? b = some o := by
  obtain ⟨h, tk, rfl, e⟩ := k
  exact e
theorem kp_tr {s t u : Shared} (k : Keeps s t) (k' : Keeps t u) : Keeps s u := by
  obtain ⟨h, tk, rfl, e⟩ := k
  obtain ⟨h', tk', rfl, e'⟩ := k'
  exact ⟨h', tk', rfl, fun b o q => e' b o (e b o q)⟩
theorem kp_tk (s : Shared) (n : Nat) : Keeps s { s with toks := n } := ⟨s.heap, n, rfl, fun _ _ q => q⟩
theorem mod_ext {K : PySem.W.Frag} {mg : Str → Option Value} {h h' : Heap} (m : Mod K mg h) (k : ∀ b o, h.get? b = some o → h'.get? b = some o) : Mod K mg h' := by
  obtain ⟨mb, h1, h2⟩ := m.blt
  exact ⟨m.kin.keeps k, m.glob.keeps k, ⟨mb, h1.keeps k, h2⟩, m.nolimit.keeps k⟩
/-- a word about a heap that stays where it grows -/
def Stays (hm : Heap → Prop) : Prop := ∀ h h' : Heap, (∀ b o, h.get? b = some o → h'.get? b = some o) → hm h → hm h'
/-- e gives what R says, and all that stood is left as it was; whatever frames stand around -/
def Lo (prog : Program) (w : World) (K : PySem.W.Frag) (mg : Str → Option Value) (D : Nat) (env : Env) (hm : Heap → Prop) (e : Expr) (R : Value → Prop) : Prop :=
  ∀ (A : Around) (E : Value → Shared → Prop) (s : Shared), A.handled = none → A.depth ≤ D → Mod K mg s.heap → hm s.heap → wpAny (model prog w) A (eval e env) (fun r t => R r ∧ Keeps s t) E s
section
variable {prog : Program} {w : World} {K : PySem.W.Frag} {mg : Str → Option Value} {D : Nat} {env : Env} {hm : Heap → Prop}
theorem Lo.imp {e : Expr} {R R' : Value → Prop} (h : Lo prog w K mg D env hm e R) (i : ∀ r, R r → R' r) : Lo prog w K mg D env hm e R' := fun A E s h1 h2 h3 h4 =>
  wpAny_mono (h A E s h1 h2 h3 h4) (fun r t q => ⟨i r q.1, q.2⟩) fun _ _ x => x
/-- a name of the frame -/
theorem lo_name {x : Str} {pos : Pos} {v : Value} (hk : env.scope.kind = .function) (hl : env.kindOf x = some .local) (hv : ∀ h, hm h → ∃ m, h.Ns env.locals m ∧ m x = some v) (hd : (x == ("__debug__" : Str)) = false := by decide) :
    Lo prog w K mg D env hm (.Name x pos) (fun r => r = v) := fun A E s _ _ _ h4 => by
  obtain ⟨m, h5, h6⟩ := hv _ h4
  exact wpAny_Name (wpAny_loadName_local hk hl h5 h6 ⟨rfl, kp_tk s s.toks⟩) hd
/-- a name of the module -/
theorem lo_glob {x : Str} {pos : Pos} {v : Value} (hk : env.scope.kind = .function) (hl : env.kindOf x = some .globalImplicit) (hg : env.globals = mainGlobals) (hv : mg x = some v) (hd : (x == ("__debug__" : Str)) = false := by decide) :
    Lo prog w K mg D env hm (.Name x pos) (fun r => r = v) := fun A E s _ _ h3 _ =>
  Calls.Name_function_global hk hl (Calls.loadGlobal_global (by rw [hg]; exact h3.glob) hv ⟨rfl, kp_tk s s.toks⟩) hd
/-- a built-in's name -/
theorem lo_blt {x : Str} {pos : Pos} {v : Value} (hk : env.scope.kind = .function) (hl : env.kindOf x = some .globalImplicit) (hg : env.globals = mainGlobals) (hb : env.builtins = builtinsNs) (hv : mg x = none) (hu : bootBuiltins x = some v)
    (hn : x ≠ "__name__" := by decide) (hd : (x == ("__debug__" : Str)) = false := by decide) : Lo prog w K mg D env hm (.Name x pos) (fun r => r = v) := fun A E s _ _ h3 _ => by
  obtain ⟨mb, h5, h6⟩ := h3.blt
  exact Calls.Name_function_global hk hl (Calls.loadGlobal_builtin (by rw [hg]; exact h3.glob) hv (by rw [hb]; exact h5) ((h6 x hn).trans hu) ⟨rfl, kp_tk s s.toks⟩) hd
theorem lo_int {i : Int} {k : Nat} {pos : Pos} : Lo prog w K mg D env hm (.Constant (.int i) k pos) (fun r => ∃ t, r = .int i t) := fun A E s _ _ _ _ =>
  wpAny_Constant_int ⟨⟨_, rfl⟩, kp_tk s _⟩
theorem lo_one {op : BoolOp} {a : Expr} {pos : Pos} {R : Value → Prop} (h : Lo prog w K mg D env hm a R) : Lo prog w K mg D env hm (.BoolOp op [a] pos) R := fun A E s h1 h2 h3 h4 => BoolOp_one (h A E s h1 h2 h3 h4)
/-- a and b: what a is decides -/
theorem lo_and {a b : Expr} {rest : List Expr} {pos : Pos} {c : Bool} {R : Value → Prop} (st : Stays hm) (ha : Lo prog w K mg D env hm a (fun r => r = .bool c)) (hf : c = false → R (.bool false)) (ht : c = true → Lo prog w K mg D env hm (.BoolOp .And (b :: rest) pos) R) :
    Lo prog w K mg D env hm (.BoolOp .And (a :: b :: rest) pos) R := fun A E s h1 h2 h3 h4 => by
  refine BoolOp_and (wpAny_mono (ha A E s h1 h2 h3 h4) (fun r t q => ?_) fun _ _ x => x)
  obtain ⟨rfl, k⟩ := q
  refine wpAny_truthy_bool ?_
  cases c with
  | false => exact ⟨hf rfl, k⟩
  | true => exact wpAny_mono (ht rfl A E t h1 h2 (mod_ext h3 (kp_ext k)) (st _ _ (kp_ext k) h4)) (fun r u q => ⟨q.1, kp_tr k q.2⟩) fun _ _ x => x
theorem lo_not {a : Expr} {pos : Pos} {c : Bool} (ha : Lo prog w K mg D env hm a (fun r => r = .bool c)) : Lo prog w K mg D env hm (.UnaryOp .Not a pos) (fun r => r = .bool (!c)) := fun A E s h1 h2 h3 h4 => by
  refine UnaryOp_ (wpAny_mono (ha A E s h1 h2 h3 h4) (fun r t q => ?_) fun _ _ x => x)
  obtain ⟨rfl, k⟩ := q
  exact PyProof.Rows.not_of (wpAny_truthy_bool ⟨rfl, k⟩)
/-- isinstance(a, T), T a built-in type -/
theorem lo_isi {a : Expr} {T : Str} {Tn : String} {p0 p2 pos : Pos} {v t : Value} {Hk : Heap → Prop} {b : Bool} (st : Stays hm) (hk : env.scope.kind = .function) (hg : env.globals = mainGlobals) (hb : env.builtins = builtinsNs)
    (li : env.kindOf "isinstance" = some .globalImplicit) (mi : mg "isinstance" = none) (lT : env.kindOf T = some .globalImplicit) (mT : mg T = none) (bT : bootBuiltins T = some (.type Tn))
    (ha : Lo prog w K mg D env hm a (fun r => r = v)) (Z : PySem.W.KitX K v t Hk) (hK : ∀ h, hm h → Hk h) (e : PySem.W.kitOne K t (.type Tn) = some b) (hx : v ≠ .builtin "__main__.__loader__#opaque")
    (he : starEach [a, .Name T p2] env = (false, eval a env) :: starEach [.Name T p2] env := by rfl) (hn : T ≠ "__name__" := by decide) (hd : (T == ("__debug__" : Str)) = false := by decide) :
    Lo prog w K mg D env hm (.Call (.Name "isinstance" p0) [a, .Name T p2] [] pos) (fun r => r = .bool b) := fun A E s h1 h2 h3 h4 => by
  refine wpAny_Call_Name_kw (wpAny_mono (lo_blt (D := D) (hm := hm) (pos := p0) hk li hg hb mi (by decide +kernel : bootBuiltins "isinstance" = some (.builtin "isinstance")) (by decide) (by decide) A E s h1 h2 h3 h4) (fun r t1 q => ?_) fun _ _ x => x)
  obtain ⟨rfl, k1⟩ := q
  refine PyProof.Rows.callWith_builtin1 ?_ he (by rfl)
  rw [he]
  have m1 := mod_ext h3 (kp_ext k1)
  have s1 := st _ _ (kp_ext k1) h4
  refine Calls.spliced_cons (wpAny_mono (ha A E t1 h1 h2 m1 s1) (fun r t2 q => ?_) fun _ _ x => x)
  obtain ⟨rfl, k2⟩ := q
  have m2 := mod_ext m1 (kp_ext k2)
  have s2 := st _ _ (kp_ext k2) s1
  refine Calls.spliced_cons (wpAny_mono (lo_blt (D := D) (hm := hm) (pos := p2) hk lT hg hb mT bT hn hd A E t2 h1 h2 m2 s2) (fun r t3 q => ?_) fun _ _ x => x)
  obtain ⟨rfl, k3⟩ := q
  refine Calls.spliced_nil ?_
  exact PySem.W.kia_one Z (mod_ext m2 (kp_ext k3)).kin (hK _ (st _ _ (kp_ext k3) s2)) e hx fun tk => ⟨rfl, kp_tr (kp_tr (kp_tr k1 k2) k3) (kp_tk _ tk)⟩
/-- i <= a <= c of whole numbers -/
theorem lo_chain {a b c : Expr} {pos : Pos} {x y z : Int} (st : Stays hm) (ha : Lo prog w K mg D env hm a (fun r => ∃ t, r = .int x t)) (hb : Lo prog w K mg D env hm b (fun r => ∃ t, r = .int y t)) (hc : Lo prog w K mg D env hm c (fun r => ∃ t, r = .int z t))
    (hl : lastMarks [.LtE, .LtE] [b, c] = false := by with_unfolding_all rfl) : Lo prog w K mg D env hm (.Compare a [.LtE, .LtE] [b, c] pos) (fun r => r = .bool (decide (x ≤ y) && decide (y ≤ z))) := fun A E s h1 h2 h3 h4 => by
  refine Compare_chain (wpAny_mono (ha A E s h1 h2 h3 h4) (fun r t1 q => ?_) fun _ _ x => x) hl
  obtain ⟨⟨tx, rfl⟩, k1⟩ := q
  have m1 := mod_ext h3 (kp_ext k1)
  have s1 := st _ _ (kp_ext k1) h4
  refine chain_link (wpAny_mono (hb A E t1 h1 h2 m1 s1) (fun r t2 q => ?_) fun _ _ x => x)
  obtain ⟨⟨ty, rfl⟩, k2⟩ := q
  have m2 := mod_ext m1 (kp_ext k2)
  have s2 := st _ _ (kp_ext k2) s1
  refine le_int (wpAny_truthy_bool ?_)
  by_cases hxy : x ≤ y
  · rw [decide_eq_true hxy]
    show wpAny _ _ _ _ _ _
    refine chain_last (wpAny_mono (hc A E t2 h1 h2 m2 s2) (fun r t3 q => ?_) fun _ _ x => x)
    obtain ⟨⟨tz, rfl⟩, k3⟩ := q
    exact le_int ⟨by rw [Bool.true_and], kp_tr (kp_tr k1 k2) k3⟩
  · rw [decide_eq_false hxy]
    show _ ∧ _
    exact ⟨by rw [Bool.false_and], kp_tr k1 k2⟩
/-- f(a): f a def of the text of one parameter, its body one return -/
theorem lo_call {f : Addr} {x pn qual fn : Str} {a e : Expr} {params : Arguments} {scope : Scope} {oc kV doc pm cdv ct u : Value} {od an : Option Addr} {osl : Array (Option Value)} {p0 p1 pos : Pos} {R : Value → Prop} (st : Stays hm)
    (hk : env.scope.kind = .function) (hg : env.globals = mainGlobals) (lf : env.kindOf fn = some .globalImplicit) (mf : mg fn = some (.ref f)) (hD : D < recursionLimit)
    (lk : K.lookup f = some ⟨oc, od, .func (PySem.W.fnOf x qual params [.Return (some e) p1] scope .none kV doc pm an cdv ct), osl⟩) (hcd : PySem.W.codeIn K cdv qual = true) (kp : PySem.W.keepIn K (.ref f) = true)
    (S : FnScope [pn] [pn] scope) (hb : Binds K (PySem.W.fnOf x qual params [.Return (some e) p1] scope .none kV doc pm an cdv ct) [pn] [])
    (lp : scope.names.lookup pn = some .local) (ha : Lo prog w K mg D env hm a (fun r => r = u))
    (hbody : ∀ env' : Env, env'.scope = scope → env'.globals = mainGlobals → env'.builtins = builtinsNs → Lo prog w K mg (D + 1) env' (fun h => hm h ∧ ∃ m, h.Ns env'.locals m ∧ m pn = some u) e R)
    (he : starEach [a] env = (false, eval a env) :: starEach [] env := by rfl) (hd : (fn == ("__debug__" : Str)) = false := by decide) :
    Lo prog w K mg D env hm (.Call (.Name fn p0) [a] [] pos) R := fun A E s h1 h2 h3 h4 => by
  refine wpAny_Call_Name_kw (wpAny_mono (lo_glob (D := D) (hm := hm) (pos := p0) hk lf hg mf hd A E s h1 h2 h3 h4) (fun r t1 q => ?_) fun _ _ x => x)
  obtain ⟨rfl, k1⟩ := q
  have m1 := mod_ext h3 (kp_ext k1)
  have s1 := st _ _ (kp_ext k1) h4
  refine PySem.W.callWith_K (h₀ := t1.heap) m1.kin kp ?_ he (by rfl)
  rw [he]
  refine Calls.spliced_cons (wpAny_mono (ha A E t1 h1 h2 m1 s1) (fun r t2 q => ?_) fun _ _ x => x)
  obtain ⟨rfl, k2⟩ := q
  have m2 := mod_ext m1 (kp_ext k2)
  have s2 := st _ _ (kp_ext k2) s1
  refine Calls.spliced_nil ⟨m2.kin, ?_⟩
  have KX := m2.kin
  refine wpAny_call (codeAny_call_function (Nat.lt_of_le_of_lt h2 hD) (KX _ _ lk) rfl S.co S.gen rfl (PySem.W.codeRec_of KX hcd) (hb t2 [r] KX rfl _ _ _ _ ?_))
  refine wpAny_newFunctionEnv_cells S.kind (fun y hy => ?_) fun env' he' s3 x3 => ?_
  · obtain rfl : y = (pn, r) := List.mem_singleton.mp hy
    exact .inl lp
  · have k3 : Keeps t2 s3 := x3.done
    have m3 := mod_ext m2 (kp_ext k3)
    have s3' := st _ _ (kp_ext k3) s2
    refine ⟨m3.nolimit, codeAny_func ?_⟩
    have ns := x3.toInCall.ns
    have hv : bindL env'.kindOf ([pn].zip ([r] ++ [])) (fun _ => none) pn = some r := by
      subst he'
      show bindL _ [(pn, r)] _ pn = some r
      unfold bindL
      simp [bindL, newEnv, Env.kindOf, lp]
    have hb' := hbody env' (by subst he'; rfl) (by subst he'; rfl) (by subst he'; rfl) (A.deeper env')
    refine wpAny_execs_cons (wpAny_Return_some (wpAny_mono (hb' _ s3 h1 (Nat.succ_le_succ h2) m3 ⟨s3', _, ns, hv⟩) (fun r t q => ?_) fun _ _ x => x))
    exact ⟨q.1, kp_tr (kp_tr (kp_tr k1 k2) k3) q.2⟩
end
/-- all(elt for x in t), t a tuple; bs: what elt gives for each item; behind it the def's table may have grown -/
def tAllT (K : PySem.W.Frag) (P : Addr) (C : Hp → V → Bool → Prop) (te : TE) : TE := fun σ H Q => te σ H fun v H1 => ∃ (a : Addr) (xs : List V) (bs : List Bool), v = .ref a ∧ SqT K H1 a xs ∧ bs.length = xs.length ∧
  (∀ (i : Nat) (x : V) (b : Bool), xs[i]? = some x → bs[i]? = some b → C H1 x b) ∧ GxR.TabG H1 P ∧ ∀ H2, GxR.Tabbed P H1 H2 → Q (.bl (bs.all fun b => b)) H2
theorem all_get (bs : List Bool) : (List.range bs.length).all (fun j => (bs[j]?).getD false) = bs.all fun b => b := by
  rw [Bool.eq_iff_iff, List.all_eq_true, List.all_eq_true]
  constructor
  · intro h b hb
    obtain ⟨j, hj, e⟩ := List.getElem_of_mem hb
    have q := h j (List.mem_range.mpr hj)
    rw [List.getElem?_eq_getElem hj, e] at q
    exact q
  · intro h j hj
    rw [List.getElem?_eq_getElem (List.mem_range.mp hj)]
    exact h _ (List.getElem_mem _)
/-- what an element asks: at the item v it gives b, quietly -/
def EltOk (X : Cx) (P : Addr) (scope : Scope) (y : Str) (elt : Expr) (C : Hp → V → Bool → Prop) : Prop :=
  ∀ (pins : List (Addr × Obj)) (σ : L2.St) (H : Hp) (s : Shared) (v : V) (u : Value) (b : Bool), Inv X pins σ H s → RelV v u → C H v b → ∀ cenv : Env, cenv.scope = scope → cenv.globals = X.env.globals → cenv.builtins = builtinsNs →
    Lo X.prog X.w X.K X.mg (X.A.depth + 1) cenv (fun h => (∀ a o, a ≠ P → s.heap.get? a = some o → h.get? a = some o) ∧ ∃ m, h.Ns cenv.locals m ∧ m y = some u) elt (fun r => r = .bool b)
theorem pe_allT {X : Cx} {c P : Addr} {elt iter : Expr} {y : Str} {px p pos gpos : Pos} {scope : Scope} {C : Hp → V → Bool → Prop} {te : TE} {k : Nat}
    (hr : Room k X.A) (hg : Gl X "all") (hm : X.mg "all" = none) (TB : GxR.TabB X.base X.mg c P) (hcode : X.env.code = .ref c) (S : GxR.GenS X.env scope y) (hi : PE X iter te) (hel : EltOk X P scope y elt C)
    (hs : ∀ v, genFold iter X.env v = pure v)
    (he : starEach [.GeneratorExp elt [⟨.Name y px, iter, [], 0⟩] scope gpos] X.env = (false, eval (.GeneratorExp elt [⟨.Name y px, iter, [], 0⟩] scope gpos) X.env) :: starEach [] X.env := by rfl) :
    PE X (.Call (.Name "all" p) [.GeneratorExp elt [⟨.Name y px, iter, [], 0⟩] scope gpos] [] pos) (tAllT X.K P C te) := by
  refine ⟨fun pins s σ H Q I h => ?_⟩
  refine wpAny_Call_Name_kw (ld_blt I hg hm (by decide +kernel : bootBuiltins "all" = some (.builtin "all")) ?_)
  refine PyProof.Rows.callWith_builtin1 ?_ he (by rfl)
  rw [he]
  refine Calls.spliced_cons (wpAny_GeneratorExp_walksQD hr.hd S.co (closure_ok S.free) S.cell S.dot S.loc S.kind (by have z := hr.dp; omega) ?_ hs)
  refine thn (hi.run pins s σ H _ I h) fun xv s1 ⟨v, H1, I1, r1, a, xs, bs, ev, hT, hlen, hC, ⟨ps, hP, htr⟩, q1⟩ => ?_
  subst ev
  cases r1
  obtain ⟨its, rv, ht, hz⟩ := I1.tuple hT
  have lenI : its.length = xs.length := rv.length.symm
  have htl : a < s1.heap.objs.size := by
    obtain ⟨o, e, _⟩ := ht
    exact Heap.lt_size e
  have hPs : s1.heap.get? P = some { cls := .none, data := .fields ps } := I1.hok P _ hP
  have hPl : P < s1.heap.objs.size := Heap.lt_size hPs
  refine wpAny_pyIter_tuple (show s1.heap.IsTuple a its.toArray from ht) ?_
  generalize eo : ({ cls := .type "tuple_iterator", data := .fields #[.ref a, .int 0 0] } : Obj) = o
  have push1 : ∀ b u, s1.heap.get? b = some u → (s1.heap.push o).get? b = some u := fun b u e => Heap.get?_push_of_some _ e
  have szp : (s1.heap.push o).objs.size = s1.heap.objs.size + 1 := Heap.size_push ..
  have limp : (s1.heap.push o).NoLimit := I1.nolimit.push o
  have hcd : PySem.W.CodeHd (s1.heap.push o) c P := TB.code.keeps fun b u e => push1 b u (I1.bk b u e)
  refine ⟨limp, ?_⟩
  refine wpAny_mono (Q := fun _ s3 => ∃ (h3 : Heap) (tk : Nat) (more : Array Value), s3 = { s1 with heap := h3, toks := tk } ∧ Heap.ExtBut P (s1.heap.push o) h3 ∧ (s1.heap.push o).objs.size ≤ h3.objs.size ∧ h3.get? P = some { cls := .none, data := .fields (ps ++ more) } ∧ TriplesOk (ps ++ more).toList) (E := X.xe) ?_ (fun code s3 q3 => ?_) fun _ _ z => z
  · cases hf : codeAmong gpos ps.toList with
    | none =>
      refine wpAny_genexprCodeX hcode (hcd.code (push1 _ _ hPs) htr) (hcd.tab (push1 _ _ hPs)) hf fun c' h' tk hx hge hlt hco' _ htab' _ => ?_
      obtain ⟨o1, vs, f1, tf, fl, tg, inF, tx, tt, op, _, _, _, _, _, _, _, _, _, htr', _⟩ := hco'
      exact ⟨h', tk, _, rfl, hx, Nat.le_trans hge (Nat.le_of_lt hlt), htab'.2, htr'⟩
    | some cv =>
      refine wpAny_genexprCode_hit hcode (hcd.code (push1 _ _ hPs) htr) hf ?_
      exact ⟨s1.heap.push o, s1.toks, #[], rfl, Heap.ExtBut.refl _ _, Nat.le_refl _, by rw [Array.append_empty]; exact push1 _ _ hPs, by rw [Array.append_empty]; exact htr⟩
  · obtain ⟨h3, tk3, more, rfl, hx3, hsz3, hP3, htr3⟩ := q3
    obtain ⟨bm, ob, e1, e2, e3, e4, e5, e6, e7, e8⟩ := TB.bm
    have toH3 : ∀ b u, b ≠ P → s1.heap.get? b = some u → h3.get? b = some u := fun b u hb e => hx3 b u hb (push1 b u e)
    have nPc : cStatics ≠ P := fun e => by
      obtain ⟨_, hns, _⟩ := I1.nolimit
      obtain ⟨o', es, ep, ho, hd, _⟩ := hns
      rw [e, hPs] at ho
      cases ho
      cases hd
    have ltC : cStatics < s1.heap.objs.size := let ⟨_, hns, _⟩ := I1.nolimit; hns.lt
    have ltA : a ≠ P := fun e => by
      obtain ⟨o', e', c', _⟩ := ht
      rw [e, hPs] at e'
      cases e'
      cases c'
    refine wpAny_builtinsFor (m := X.mg) (by rw [I1.ok.glob]; exact ((I1.mod.glob.keeps I1.bk).push o).extBut hx3 TB.gP) e1 e2 (toH3 _ _ e4 (I1.bk _ _ e5)) e6 e7 e8 ?_
    have itl : s1.heap.objs.size < h3.objs.size := by omega
    refine ⟨s1.heap.objs.size, [s1.heap.objs.size, a], [s1.heap.objs.size], its.toArray.size, _, _, (fun _ => true), (fun i r => ∃ b, bs[i]? = some b ∧ r = .bool b), rfl, fun A' hA => Walks.tuple hA _ a (Nat.ne_of_lt htl) its.toArray, ⟨?_, ?_⟩, ?_, limp.extBut hx3 nPc, ?_, ?_, ?_⟩
    · have e9 : (s1.heap.push o).get? s1.heap.objs.size = some o := Heap.get?_push_size _ (by rw [← eo]; rfl)
      have e10 := hx3 _ _ (fun z => Nat.ne_of_lt hPl z.symm) e9
      subst eo
      exact ⟨_, e10, rfl, rfl⟩
    · obtain ⟨o', e', r'⟩ := ht
      exact ⟨o', toH3 _ _ ltA e', r'⟩
    · intro b hb
      rcases List.mem_cons.mp hb with z | z
      · rw [z]
        exact itl
      · rw [List.mem_singleton.mp z]
        exact Nat.lt_trans htl itl
    · intro z
      exact Nat.ne_of_lt ltC (List.mem_singleton.mp z)
    · intro href hhref
      refine ⟨fun A' E' i v s₂ m₂ hA _ _ _ hn hmv hk => ?_, fun A' E' i v s₂ m₂ hA hdp _ hv _ hn hmv hk => ?_⟩
      · simp only [List.forIn_nil]
        exact wpAny_pure ⟨rfl, kp_tk _ _⟩
      · have hv' : its[i]? = some v := by
          rw [← hv]
          simp
        obtain ⟨hi1, _⟩ := List.getElem?_eq_some_iff.mp hv'
        have hi2 : i < xs.length := by omega
        have hi3 : i < bs.length := by omega
        obtain ⟨u, hu, ru⟩ := rv.get (List.getElem?_eq_getElem hi2)
        rw [hv'] at hu
        cases hu
        have hold : ∀ b u, b ≠ P → s1.heap.get? b = some u → s₂.heap.get? b = some u := fun b u hb e => by
          have hl := Heap.lt_size e
          refine hk b (List.mem_range.mpr (Nat.lt_trans hl itl)) (fun z => ?_) u (hhref b u (toH3 b u hb e))
          exact Nat.ne_of_lt hl (List.mem_singleton.mp z)
        have hmod : Mod X.K X.mg s₂.heap := mod_ext I1.mod fun b u e => hold b u (fun z => by
          have n := (I1.bs b u e).2
          rw [z, hP] at n
          cases n) (I1.bk b u e)
        refine wpAny_mono (hel pins σ H1 s1 _ v bs[i] I1 ru (hC i _ _ (List.getElem?_eq_getElem hi2) (List.getElem?_eq_getElem hi3)) (genEnv scope (cloFrom X.env.cells scope.names []) h3.objs.size code builtinsNs X.env) rfl rfl rfl A' E' s₂ hA hdp hmod ⟨hold, m₂, hn, hmv⟩) (fun r t q => ?_) fun _ _ z => z
        exact ⟨⟨_, List.getElem?_eq_getElem hi3, q.1⟩, q.2⟩
    · intro g h5 tk5 gs hgb hag hsz5 hk5 W5 hat
      simp only [GxR.passing_true, List.length_range] at W5
      have W6 := W5.in4_1
      refine Calls.spliced_nil (call_all_walkS (W6.self 0 _ _ _ hat ⟨g, _, _, _, _, _, _, fun j => (bs[j]?).getD false, rfl, W6, hat, ?_, fun s' hmv => ?_⟩))
      · intro j r sj Qj Ej hr' hQj
        obtain ⟨i, hij, b, hb, rfl⟩ := hr'
        obtain ⟨hj, ej⟩ := List.getElem?_eq_some_iff.mp hij
        rw [List.getElem_range] at ej
        subst ej
        have hQ2 : Qj ((bs[j]?).getD false) sj := hQj
        rw [hb] at hQ2
        exact wpAny_truthy_bool hQ2
      · have nw : ∀ b u, s1.heap.get? b = some u → b ∉ h3.objs.size :: [s1.heap.objs.size] := fun b u e hb => by
          have hl := Heap.lt_size e
          rcases List.mem_cons.mp hb with z | z
          · rw [z] at hl
            exact absurd (Nat.lt_trans itl hl) (Nat.lt_irrefl _)
          · rw [List.mem_singleton.mp z] at hl
            exact Nat.lt_irrefl _ hl
        have J := GxR.inv_tab (more := more) (h' := s'.heap) (g' := s'.gens) (d' := s'.drawn) (t' := s'.toks) I1 hP (fun b u hb e => hmv.heap b u (nw b u e) (hk5 b u (toH3 b u hb e)))
          (hmv.heap P _ (nw P _ hPs) (hk5 P _ hP3)) (AllBare.movedS (I1.bare.push hgb) hmv)
        rw [GxR.sh_eta s1 s' hmv.os] at J
        refine ⟨.bl (bs.all fun b => b), upd H1 P (.tbl (ps ++ more)), J, ?_, q1 _ ⟨⟨ps ++ more, upd_same, htr3⟩, fun b hb => upd_ne hb⟩⟩
        have e11 : its.toArray.size = bs.length := by
          rw [List.size_toArray]
          omega
        rw [e11, all_get]
        rfl
/-! ### heaps -/
theorem same_upd {H : Hp} {p : Addr} {o : HO} (h : H p = none) : Same H (upd H p o) := fun b x e => by
  rw [upd_ne (ne_of_none e h)]
  exact e
theorem Same.tup {K : PySem.W.Frag} {H H' : Hp} {a : Addr} {xs : List V} (e : Same H H') (h : SqT K H a xs) : SqT K H' a xs := by
  rcases h with (h | ⟨o, h⟩) | h
  · exact .inl (.inl (e _ _ h))
  · exact .inl (.inr ⟨o, e _ _ h⟩)
  · exact .inr h
/-- the source of draws: at p the list of the cells' list at l, a number held and a seed -/
def Sc (p l : Addr) (H : Hp) : Prop := p ≠ l ∧ ∃ (ns : List Int) (a b : Int), H p = some (.lst [.ref l, .int a, .int b]) ∧ H l = some (.lst (ns.map V.int)) ∧ 0 ≤ a ∧ 0 ≤ b ∧ b < 998244353
/-- but for p and l all that was tracked is as it was -/
def Kp (p l : Addr) (H H' : Hp) : Prop := ∀ b o, b ≠ p → b ≠ l → H b = some o → H' b = some o
theorem Kp.refl {p l : Addr} (H : Hp) : Kp p l H H := fun _ _ _ _ e => e
theorem Kp.trans {p l : Addr} {H H1 H2 : Hp} (a : Kp p l H H1) (b : Kp p l H1 H2) : Kp p l H H2 := fun c o h1 h2 e => b c o h1 h2 (a c o h1 h2 e)
theorem Kp.upd {p l q : Addr} {o : HO} {H H1 : Hp} (a : Kp p l H H1) (h : H1 q = none) : Kp p l H (L2.upd H1 q o) := fun c u h1 h2 e => same_upd h c u (a c u h1 h2 e)
theorem Kp.updp {p l : Addr} {o : HO} {H H1 : Hp} (a : Kp p l H H1) : Kp p l H (L2.upd H1 p o) := fun c u h1 h2 e => by
  rw [upd_ne h1]
  exact a c u h1 h2 e
theorem Kp.updl {p l : Addr} {o : HO} {H H1 : Hp} (a : Kp p l H H1) : Kp p l H (L2.upd H1 l o) := fun c u h1 h2 e => by
  rw [upd_ne h2]
  exact a c u h1 h2 e
theorem Sc.upd {p l q : Addr} {o : HO} {H : Hp} (a : Sc p l H) (h : H q = none) : Sc p l (L2.upd H q o) := by
  obtain ⟨n, ns, x, y, e1, e2, r⟩ := a
  exact ⟨n, ns, x, y, same_upd h _ _ e1, same_upd h _ _ e2, r⟩
theorem Sc.same {p l : Addr} {H H' : Hp} (a : Sc p l H) (h : Same H H') : Sc p l H' := by
  obtain ⟨n, ns, x, y, e1, e2, r⟩ := a
  exact ⟨n, ns, x, y, h _ _ e1, h _ _ e2, r⟩
theorem Kp.of_same {p l : Addr} {H H' : Hp} (h : Same H H') : Kp p l H H' := fun b o _ _ e => h b o e
theorem Sc.ne {p l b : Addr} {H : Hp} (a : Sc p l H) (h : H b = none) : b ≠ p ∧ b ≠ l := by
  obtain ⟨n, ns, x, y, e1, e2, r⟩ := a
  exact ⟨(ne_of_none e1 h).symm, (ne_of_none e2 h).symm⟩
/-- what was free behind is free ahead -/
theorem Kp.free {p l b : Addr} {H H' : Hp} (k : Kp p l H H') (a : Sc p l H') (h : H' b = none) : H b = none := by
  cases q : H b with
  | none => rfl
  | some o =>
    have n := a.ne h
    rw [k b o n.1 n.2 q] at h
    cases h
theorem dpAll_int {K : PySem.W.Frag} {H : Hp} : ∀ ns : List Int, DpAll K H (ns.map V.int) (ns.map PyData.int)
  | [] => .nil
  | n :: r => .cons (.int n) (dpAll_int r)
theorem canLay_ints : ∀ ns : List Int, PyData.canLayAll0 (ns.map PyData.int) = true
  | [] => by simp [PyData.canLayAll0]
  | n :: r => by
    have ih := canLay_ints r
    simp only [List.map_cons, PyData.canLayAll0, PyData.canLay0, Bool.true_and]
    exact ih
theorem depth_ints : ∀ ns : List Int, PyData.depthAll (ns.map PyData.int) ≤ 1
  | [] => by simp [PyData.depthAll]
  | n :: r => by
    have ih := depth_ints r
    simp only [List.map_cons, PyData.depthAll, PyData.depth]
    omega
theorem shaped_ints (ns : List Int) : SeqAt.shaped (.list (ns.map PyData.int)) = true := by
  have h1 := canLay_ints ns
  have h2 := depth_ints ns
  unfold SeqAt.shaped
  rw [show PyData.canLay0 (.list (ns.map PyData.int)) = PyData.canLayAll0 (ns.map PyData.int) by simp only [PyData.canLay0], h1, Bool.true_and]
  refine decide_eq_true ?_
  rw [show PyData.depth (.list (ns.map PyData.int)) = PyData.depthAll (ns.map PyData.int) + 1 by simp only [PyData.depth]]
  omega
theorem eqv_nil : ∀ ns : List Int, PyData.eqv (.list (ns.map PyData.int)) (.list []) = ns.isEmpty
  | [] => by simp [PyData.eqv, PyData.eqvAll]
  | n :: r => by simp [PyData.eqv, PyData.eqvAll]
theorem map_get {ns : List Int} {i : Nat} {x : V} (h : (ns.map V.int)[i]? = some x) : ∃ n, ns[i]? = some n ∧ x = .int n := by
  rw [List.getElem?_map] at h
  cases e : ns[i]? with
  | none =>
    rw [e] at h
    cases h
  | some n =>
    rw [e] at h
    exact ⟨n, rfl, (Option.some.inj h).symm⟩
theorem lg {m : Int} (h : 0 < m) (h2 : m ≤ 1000000) : m.natAbs.log2 < 9000 := Nat.lt_of_lt_of_le (PySem.Flt.log2_lt_of (by decide : 0 < 64) (by omega)) (by decide)
/-! ### < of data at any depth -/
def rLtD (K : PySem.W.Frag) : R2 := fun x y H Q => ∃ d e, Dp K H x d ∧ Dp K H y e ∧ PySem.W.alike d e = true ∧ d ≠ .none ∧ d.depth ≤ 64 ∧ Q (.bl (PySem.W.dataLt d e)) H
theorem op_ltD {X : Cx} (hu : X.A.units + 64 < cLine) : OpR X (compareOp .Lt) (rLtD X.K) := by
  intro pins s σ H x y v u Q I rx ry h
  obtain ⟨d, e, hd, he, ha, hn, hz, q⟩ := h
  obtain ⟨as, r1⟩ := Dp.reads I d x v hd rx
  obtain ⟨bs, r2⟩ := Dp.reads I e y u he ry
  refine PySem.W.lt_data r1 r2 ha hn ?_ ⟨.bl _, H, I, rfl, q⟩
  have := Nat.min_le_left d.depth e.depth
  omega
/-! ### (a, ..) * k for k = 0 and 1 too -/
theorem tup_mul1 (l : Addr) (items : Array Value) (n : Nat) (dd : Option Addr) (sl : Array (Option Value)) (u : Tok) :
    Meets (Builtin.«tuple.__mul__» ⟨[.ref l, .int 1 u], []⟩) (fun _ R s => s.heap.get? l = some { cls := .type "tuple", dict := dd, data := .seq items n, slots := sl } ∧ R (.ok (.ret (.ref l))) s) :=
  .of_wp fun prog w A R s h => by
    obtain ⟨hp, g, d, tk, os⟩ := s
    obtain ⟨hl, h⟩ := h
    have f1 := AutoSeq1.idx_int
    wp_walk using AutoSeq1.wpAny_loadPart' hl
    repeat (first
      | (refine wpAny_ite_true (decide_eq_true (by simp)) ?_; wp_walk using AutoSeq1.wpAny_loadPart' hl)
      | (refine wpAny_ite_false (decide_eq_false (by simp)) ?_; wp_walk using AutoSeq1.wpAny_loadPart' hl))
    exact ⟨_, rfl, h⟩
theorem tup_mul0 (l : Addr) (items : Array Value) (n : Nat) (dd : Option Addr) (sl : Array (Option Value)) (u : Tok) (hne : items.isEmpty = false) :
    Meets (Builtin.«tuple.__mul__» ⟨[.ref l, .int 0 u], []⟩) (fun _ R s => s.heap.get? l = some { cls := .type "tuple", dict := dd, data := .seq items n, slots := sl } ∧
      R (.ok (.ret (.ref s.heap.objs.size))) { s with heap := s.heap.push { cls := .type "tuple", data := .seq #[] }, toks := s.toks }) :=
  .of_wp fun prog w A R s h => by
    obtain ⟨hp, g, d, tk, os⟩ := s
    obtain ⟨hl, h⟩ := h
    have f1 := AutoSeq1.idx_int
    wp_walk using AutoSeq1.wpAny_loadPart' hl
    repeat (first
      | (refine wpAny_ite_false (decide_eq_false (by simp [hne])) ?_; wp_walk using AutoSeq1.wpAny_loadPart' hl)
      | (refine wpAny_ite_true (decide_eq_true (by simp)) ?_; wp_walk using AutoSeq1.wpAny_loadPart' hl))
    exact ⟨_, rfl, h⟩
def rRepA (K : PySem.W.Frag) : R2 := fun x y H Q => ∃ l k xs, x = .ref l ∧ y = .int k ∧ SqT K H l xs ∧ xs ≠ [] ∧ 0 ≤ k ∧ k ≤ 1000 ∧ xs.length ≤ 1000 ∧ (k = 1 → Q (.ref l) H) ∧ (k ≠ 1 → ∀ p, H p = none → Q (.ref p) (upd H p (.tup (List.replicate k.toNat xs).flatten)))
theorem op_repA {X : Cx} : OpR X (binaryOp .Mult) (rRepA X.K) := by
  intro pins s σ H x y v u Q I rx ry h
  obtain ⟨l, k, xs, ex, ey, hT, hne, h0, h1, hz, q1, q2⟩ := h
  by_cases hk : 2 ≤ k
  · exact op_repT pins s σ H x y v u Q I rx ry ⟨l, k, xs, ex, ey, hT, hne, hk, h1, hz, q2 (by omega)⟩
  · subst ex ey
    cases rx
    obtain ⟨t, rfl⟩ := ry
    obtain ⟨its, r, ⟨⟨cls, dd, data, sl⟩, ho, hc, n, hd⟩, hs⟩ := I.tuple hT
    simp only at hc hd
    subst hc hd
    have hi : its.toArray.isEmpty = false := by
      cases its with
      | nil => exact absurd (List.eq_nil_of_length_eq_zero r.length) hne
      | cons a b => rfl
    rcases (show k = 0 ∨ k = 1 by omega) with rfl | rfl
    · refine wpAny_binaryOp_repeat_ref (T := "tuple") (U := "int") (by decide) ⟨_, ho, rfl⟩ (fun s' => typeIs_int s' 0 t) noFill_tuple_mul F.fills_int_mul F.slot_int_rmul repeat_tuple F.slot_int_index.lookup
        (call_meets F.slot_int_rmul (typeIs_int s 0 t) F.entry_int_rmul (F.args_int_rmul_2 _ _) (int_rmul_tuple 0 t l its.toArray n dd sl)
          ⟨ho, rfl, ⟨_, ho, rfl⟩, call_meets F.slot_tuple_mul ⟨_, ho, rfl⟩ F.entry_tuple_mul (F.args_tuple_mul_2 _ _) (tup_mul0 l its.toArray n dd sl t hi) ⟨ho, ?_⟩⟩)
      refine ⟨.ref s.heap.objs.size, _, I.laid (t' := s.toks) (o := .tup (List.replicate (0 : Int).toNat xs).flatten) (fun b ob q => Heap.get?_push_of_some _ q) (Nat.le_refl _) ?_, rfl, q2 (by decide) _ (I.hok.fresh (Nat.le_refl _))⟩
      exact ⟨Nat.zero_le _, [], .nil, IsTup.new _ _⟩
    · exact wpAny_binaryOp_repeat_ref (T := "tuple") (U := "int") (by decide) ⟨_, ho, rfl⟩ (fun s' => typeIs_int s' 1 t) noFill_tuple_mul F.fills_int_mul F.slot_int_rmul repeat_tuple F.slot_int_index.lookup
        (call_meets F.slot_int_rmul (typeIs_int s 1 t) F.entry_int_rmul (F.args_int_rmul_2 _ _) (int_rmul_tuple 1 t l its.toArray n dd sl)
          ⟨ho, rfl, ⟨_, ho, rfl⟩, call_meets F.slot_tuple_mul ⟨_, ho, rfl⟩ F.entry_tuple_mul (F.args_tuple_mul_2 _ _) (tup_mul1 l its.toArray n dd sl t) ⟨ho, ⟨.ref l, H, I, rfl, q1 rfl⟩⟩⟩)
/-! ### isinstance of the error that a suite holds -/
def rIsX (K : PySem.W.Frag) (D a : Addr) (cls : Value) (d : Option Addr) : List V → Hp → VK → Prop := fun xs H Q => cls = .ref D ∧ d = none ∧ rIsE K D a xs H Q
theorem call_isX {X : Cx} {a D : Addr} {oe : Obj} {cls : Value} {d : Option Addr} {pn : List (Addr × Obj)} (C : ExcC X.K D) (hz : Zc cls d oe) (hf : ∃ vs, oe.data = .fields vs) : CallR (X.suite a ((a, oe) :: pn)) (.builtin "isinstance") (rIsX X.K D a cls d) := by
  intro pins s σ H xs us Q I r h
  obtain ⟨rfl, rfl, h⟩ := h
  exact call_isE C hz hf pins s σ H xs us Q I r h
/-- .. with a tuple of classes -/
def rIsXT (K : PySem.W.Frag) (D a : Addr) (cls : Value) (d : Option Addr) : List V → Hp → VK → Prop := fun xs H Q => cls = .ref D ∧ d = none ∧ ∃ (tp : Addr) (cs : List V) (us : List Value) (b : Bool), xs = [.ref a, .ref tp] ∧ H tp = some (.tup cs) ∧ Paired ClsV cs us ∧ PySem.W.kitAny K (.ref D) us = some b ∧ Q (.bl b) H
theorem call_isXT {X : Cx} {a D : Addr} {oe : Obj} {cls : Value} {d : Option Addr} {pn : List (Addr × Obj)} (C : ExcC X.K D) (hz : Zc cls d oe) (hf : ∃ vs, oe.data = .fields vs) : CallR (X.suite a ((a, oe) :: pn)) (.builtin "isinstance") (rIsXT X.K D a cls d) := by
  intro pins s σ H xs us Q I r h
  obtain ⟨rfl, rfl, tp, cs, ws, b, rfl, hT, k, e, q⟩ := h
  obtain ⟨u1, u2, rfl, r1, r2⟩ := vals2 r
  cases (show u1 = Value.ref a from r1)
  cases (show u2 = Value.ref tp from r2)
  obtain ⟨hget, _⟩ := I.pin (a, oe) (List.mem_append.mpr (.inl List.mem_cons_self))
  obtain ⟨vs, hv⟩ := hf
  have J : PySem.W.InstAt s.heap a oe D none := by
    obtain ⟨oc, od, oda, osl⟩ := oe
    obtain ⟨h1, h2⟩ := hz
    dsimp only at h1 h2 hv
    subst h1 h2 hv
    exact ⟨hget, rfl, rfl, trivial⟩
  obtain ⟨_, its, rv, o, h1, h2, n, h3⟩ := (show ObjOk X.prog X.w H s.heap tp (.tup cs) from I.hok tp _ hT)
  have e3 := ClsV.all k rv
  subst e3
  obtain ⟨oc, od, dt, sl⟩ := o
  simp only at h2 h3
  subst h2 h3
  exact PySem.W.kia_tup (PySem.W.handS_kitx_exc C.hg C.hk C.hs C.hd C.ha C.hn C.ht C.hm) I.kIn J h1 e (fun z => nomatch z) fun tk => ⟨.bl b, H, I.kept (t' := tk) fun _ _ z => z, rfl, q⟩
/-! ### for i, x in enumerate(t), t a tuple -/
theorem enum_new {v : Value} {o : Obj} {Hv : Heap → Prop} (B : Begins v o Hv) :
    Meets (Builtin.«enumerate.__new__» ⟨[.type "enumerate", v], []⟩) (fun _ R s => Hv s.heap ∧
      R (.ok (.ret (.ref (s.heap.push o).objs.size))) { s with heap := (s.heap.push o).push { cls := .type "enumerate", data := .fields #[.none, .bool false, .ref s.heap.objs.size, rawInt 0, .none, .none] } }) :=
  .of_wp fun prog w A R s h => by
    obtain ⟨hp, g, d, tk, os⟩ := s
    obtain ⟨hv, h⟩ := h
    have hsub := sub_enumerate
    have q1 : ∀ {A1 : Around} {E1 : Value → Shared → Prop} {Q1 : Value → Shared → Prop}, Q1 (.ref hp.objs.size) ⟨hp.push o, g, d, tk, os⟩ → wpAny (model prog w) A1 (pyIter v) Q1 E1 ⟨hp, g, d, tk, os⟩ := fun q => B.iter prog w _ _ ⟨hp, g, d, tk, os⟩ _ hv q
    wp_walk using q1
    refine wpAny_stack_any fun st => wpAny_pure ?_
    split
    · rename_i c _ _ _ _ _
      cases (c == Value.type "enumerate") <;> (wp_walk using q1; exact ⟨_, rfl, h⟩)
    · wp_walk using q1
      exact ⟨_, rfl, h⟩
theorem call_enumT {prog : Program} {w : World} {A : Around} {E : Value → Shared → Prop} {s : Shared} {t : Addr} {items : Array Value} {Q : Value → Shared → Prop} (ht : s.heap.IsTuple t items)
    (h : ∀ h', IsEnum h' (s.heap.objs.size + 1) s.heap.objs.size 0 .none → h'.IsTupleIter s.heap.objs.size t 0 → (∀ b o, s.heap.get? b = some o → h'.get? b = some o) → Q (.ref (s.heap.objs.size + 1)) { s with heap := h' }) :
    wpAny (model prog w) A (call (.type "enumerate") [.ref t]) Q E s := by
  refine callType_new F.called_enumerate (by decide) (F.typeCall_enumerate_1 _) (F.newCall_enumerate_1 _) (fun obj => F.args_object_init_2 obj _) F.entry_enumerate_new (enum_new (begins_tuple t items)) ⟨ht, ?_⟩
  generalize eo : ({ cls := .type "tuple_iterator", data := .fields #[.ref t, .int 0 0] } : Obj) = o
  have hz : (s.heap.push o).objs.size = s.heap.objs.size + 1 := Heap.size_push ..
  have fo : o.isFreed = false := by rw [← eo]; rfl
  have he : IsEnum ((s.heap.push o).push { cls := .type "enumerate", data := .fields #[.none, .bool false, .ref s.heap.objs.size, rawInt 0, .none, .none] }) (s.heap.objs.size + 1) s.heap.objs.size 0 .none := by
    have q := Heap.get?_push_size (s.heap.push o) (o := { cls := .type "enumerate", data := .fields #[.none, .bool false, .ref s.heap.objs.size, rawInt 0, .none, .none] }) rfl
    rw [hz] at q
    exact q
  have hi : ((s.heap.push o).push { cls := .type "enumerate", data := .fields #[.none, .bool false, .ref s.heap.objs.size, rawInt 0, .none, .none] }).IsTupleIter s.heap.objs.size t 0 := by
    refine ⟨o, Heap.get?_push_of_some _ (Heap.get?_push_size _ fo), ?_, ?_⟩
    · rw [← eo]
    · rw [← eo]
      rfl
  show _ ∧ _
  rw [hz]
  exact ⟨⟨_, he, rfl⟩, h _ he hi fun b u x => Heap.get?_push_of_some _ (Heap.get?_push_of_some _ x)⟩
def ItE (K : PySem.W.Frag) (a : Addr) : It :=
  ⟨fun i H => ∃ (xs : List V) (x : V), SqT K H a xs ∧ xs[i]? = some x, fun i H v H' => ∃ T x, v = .ref T ∧ H T = none ∧ H' = upd H T (.tup [.int (i : Nat), x]) ∧ ∀ xs, SqT K H a xs → xs[i]? = some x, fun i H => ∃ xs : List V, SqT K H a xs ∧ xs.length ≤ i⟩
theorem turn_enumT {P : Program} {w : World} {K : PySem.W.Frag} {elts : List Expr} {kk : Nat} {tpos : Pos} (a e it : Addr) (hea : e ≠ a) (hia : a ≠ it) (hne : e ≠ it) :
    Turn P w K (.Tuple elts kk tpos) (ItE K a) [e, it] e (fun i h => (∃ old, IsEnum h e it ((i : Nat) : Int) old) ∧ h.IsTupleIter it a i) where
  mem := by simp
  obj := fun i h st b hb => by
    obtain ⟨⟨old, he⟩, ⟨o, ho, hc, hd⟩⟩ := st
    simp only [List.mem_cons, List.not_mem_nil, or_false] at hb
    rcases hb with rfl | rfl
    · exact ⟨_, he, fun v q => nomatch q⟩
    · exact ⟨o, ho, fun v q => by rw [hd] at q; cases q⟩
  keep := fun i h h' st k => let ⟨⟨old, he⟩, hi⟩ := st; ⟨⟨old, k e (by simp) _ he⟩, hi.at fun o q => k it (by simp) o q⟩
  item := by
    intro X hP hw hK hc i pins s σ H E I hf st hg
    subst hP hw hK
    obtain ⟨⟨old, he⟩, hit⟩ := st
    obtain ⟨xs, x, hq, hx⟩ := hg
    obtain ⟨its, rv, p, hz⟩ := I.tuple hq
    obtain ⟨u, hu, ru⟩ := rv.get hx
    have hel : e < s.heap.objs.size := Heap.lt_size he
    have hil : it < s.heap.objs.size := by
      obtain ⟨_, q, _⟩ := hit
      exact Heap.lt_size q
    have hlt : i < its.toArray.size := by
      rw [List.size_toArray]
      exact (List.getElem?_eq_some_iff.mp hu).1
    have hfp : e ∉ [it, a] := fun z => by
      simp only [List.mem_cons, List.not_mem_nil, or_false] at z
      rcases z with z | z
      · exact hne z
      · exact hea z
    refine wpAny_pyNext_enum_itemD (Draws.tuple (A := X.A.in1) (I.ok.hd hc) it a hia its.toArray) he ⟨hit, p⟩ hlt hne hfp fun y h' tk hy ho hst hT hsz hk => ?_
    have ey : y = u := by
      have z : its.toArray[i]? = some y := hy
      rw [show its.toArray[i]? = its[i]? by simp, hu] at z
      exact (Option.some.inj z).symm
    subst ey
    refine ⟨_, rfl, wpAny_letOwnedTupleGo_enum (s := { s with heap := h', toks := tk + 1 }) ho fun h2 he' sb => ?_⟩
    have hT2 : h2.get? s.heap.objs.size = some { cls := .type "tuple", data := .seq #[.int i tk, y] } := (sb.2 _ (Nat.ne_of_gt hel)).trans hT
    have new : ObjOk X.prog X.w (upd H s.heap.objs.size (.tup [.int (i : Nat), x])) h2 s.heap.objs.size (.tup [.int (i : Nat), x]) :=
      ⟨(show 2 ≤ sizeLine by decide), [.int i tk, y], .cons ⟨_, rfl⟩ (.cons ru .nil), ⟨_, hT2, rfl, _, rfl⟩⟩
    have I1 : Inv X pins σ (upd H s.heap.objs.size (.tup [.int (i : Nat), x])) { s with heap := h2, toks := tk + 1 } := by
      refine I.turnedNew (ch := [e, it]) (fun b ob hb q => ?_) hf (Nat.le_refl _) new
      have n1 : b ≠ e := fun z => hb (by simp [z])
      have n2 : b ≠ it := fun z => hb (by simp [z])
      exact (sb.2 b n1).trans (hk b ob n1 n2 q)
    refine ⟨.ref s.heap.objs.size, _, I1, rfl, ⟨_, x, rfl, I.hok.fresh (Nat.le_refl _), rfl, fun ys hy => by rw [I.tuple_inj hy hq]; exact hx⟩, ⟨⟨y, ?_⟩, hst.1.at fun o q => (sb.2 it (Ne.symm hne)).trans q⟩, fun b hb => ?_⟩
    · rw [show ((i + 1 : Nat) : Int) = (i : Int) + 1 by omega]
      exact he'
    · have hl : b < s.heap.objs.size := by
        simp only [List.mem_cons, List.not_mem_nil, or_false] at hb
        rcases hb with rfl | rfl
        · exact hel
        · exact hil
      rw [upd_ne (Nat.ne_of_lt hl)]
      exact (hf b hb).1
  done := by
    intro X hP hw hK hc i pins s σ H E I hf st hg
    subst hP hw hK
    obtain ⟨⟨old, he⟩, hit⟩ := st
    obtain ⟨xs, hq, hx⟩ := hg
    obtain ⟨its, rv, p, hz⟩ := I.tuple hq
    obtain ⟨f0, f1, f2, f3, f4, f5⟩ := hf it (by simp)
    have hl := rv.length
    have D : Draws X.prog X.w X.A.in1 it [it, a] i (fun _ _ => True) (fun j h => j = i ∧ h.IsTupleIter it a i ∧ h.IsTuple a its.toArray) :=
      { live := fun _ _ st => let ⟨o, ho, _⟩ := st.2.1; ⟨o, ho⟩
        frame := fun _ _ _ st k => ⟨st.1, st.2.1.at fun o q => k it (by simp) o q, st.2.2.at fun o q => k a (by simp) o q⟩
        item := fun j s Q E hj st _ => absurd st.1 (Nat.ne_of_lt hj)
        done := fun s Q E st hE => wpAny_nextOf_tuple_end (I.ok.hd hc) st.2.1 st.2.2 (by simp; omega) hE }
    exact wpAny_pyNext_enum_endD D he ⟨rfl, hit, p⟩ fun h' eb => ⟨rfl, I.turned (t' := s.toks) (fun b o hb q => eb b o hb q) f0 f1 f3 f4 f5⟩
  self := fun A i s Q E st h => let ⟨⟨_, he⟩, _⟩ := st; wpAny_pyIter_enum he h
def iEnumT (K : PySem.W.Frag) (ta : TA) : TI := fun σ H R => ta σ H fun vs H1 => ∃ a xs, vs = [.ref a] ∧ SqT K H1 a xs ∧ R (ItE K a) H1
theorem pi_enumT {X : Cx} {e : Expr} {ta : TA} {p pos tpos : Pos} {elts : List Expr} {kk : Nat} (hg : Gl X "enumerate") (hm : X.mg "enumerate" = none) (ha : PA X [e] ta) (hs : starEach [e] X.env = [(false, eval e X.env)] := by rfl) :
    PI X (.Tuple elts kk tpos) (.Call (.Name "enumerate" p) [e] [] pos) (iEnumT X.K ta) := by
  refine ⟨fun pins s σ H R I h => ?_⟩
  refine Call_ (ld_blt I hg hm boot_enumerate (PyProof.Rows.callWith_type1 (thn (ha.run pos pins s σ H _ I h) fun us s1 ⟨vs, H1, I1, r1, q1⟩ => ?_) hs rfl))
  obtain ⟨a, xs, ex, hq, q⟩ := q1
  subst ex
  cases r1 with
  | cons r rr =>
    cases rr
    cases r
    obtain ⟨its, rv, p', hz⟩ := I1.tuple hq
    have hal : a < s1.heap.objs.size := by
      obtain ⟨o, e, _⟩ := p'
      exact Heap.lt_size e
    refine call_enumT p' fun h' he hit hk => wpAny_pyIter_enum he ?_
    refine ⟨s1.heap.objs.size + 1, [s1.heap.objs.size + 1, s1.heap.objs.size], _, _, H1, rfl, I1.kept (t' := s1.toks) hk, turn_enumT a (s1.heap.objs.size + 1) s1.heap.objs.size (fun z => absurd hal (by rw [← z]; exact Nat.not_lt.mpr (Nat.le_succ _))) (Nat.ne_of_lt hal) (Nat.succ_ne_self _), ⟨⟨.none, he⟩, hit⟩, fun b hb => ?_, q⟩
    have hle : s1.heap.objs.size ≤ b := by
      simp only [List.mem_cons, List.not_mem_nil, or_false] at hb
      rcases hb with rfl | rfl
      · exact Nat.le_succ _
      · exact Nat.le_refl _
    exact I1.fpOk hle (I1.hok.fresh hle)
/-! ### the mathematics: all fillings, in order -/
def cnt (n : Int) (ws : List Int) : Int := (ws.map fun x => n ^ x.toNat).sum
theorem cnt_take {n : Int} {ws : List Int} {i : Nat} {x : Int} (h : ws[i]? = some x) : cnt n (ws.take (i + 1)) = cnt n (ws.take i) + n ^ x.toNat := by
  unfold cnt
  rw [List.map_take, List.map_take]
  refine sum_take ?_
  rw [List.getElem?_map, h]
  rfl
theorem cnt_nonneg {n : Int} (h : 0 ≤ n) : ∀ ws : List Int, 0 ≤ cnt n ws
  | [] => Int.le_refl 0
  | x :: r => by
    have ih := cnt_nonneg h r
    have h1 : 0 ≤ n ^ x.toNat := Int.pow_nonneg h
    show 0 ≤ (n ^ x.toNat :: r.map fun x => n ^ x.toNat).sum
    rw [List.sum_cons]
    exact Int.add_nonneg h1 ih
theorem cnt_app (n : Int) (a b : List Int) : cnt n (a ++ b) = cnt n a + cnt n b := by
  unfold cnt
  rw [List.map_append, List.sum_append]
theorem cnt_take_le {n : Int} (h : 0 ≤ n) (ws : List Int) (i : Nat) : cnt n (ws.take i) ≤ cnt n ws := by
  have e : cnt n ws = cnt n (ws.take i) + cnt n (ws.drop i) := by rw [← cnt_app, List.take_append_drop]
  have := cnt_nonneg h (ws.drop i)
  omega
theorem cnt_term {n : Int} (h : 0 ≤ n) {ws : List Int} {i : Nat} {x : Int} (e : ws[i]? = some x) : n ^ x.toNat ≤ cnt n ws := by
  have h1 := cnt_take (n := n) e
  have h2 := cnt_take_le h ws (i + 1)
  have h3 := cnt_nonneg h (ws.take i)
  omega
/-- all rows of w things below n, rising -/
def rows (n : Nat) : Nat → List (List Int)
  | 0 => [[]]
  | w + 1 => (rows n w).flatMap fun r => (List.range n).map fun (t : Nat) => r ++ [(t : Int)]
theorem rows_len (n : Nat) : ∀ w, (rows n w).length = n ^ w
  | 0 => rfl
  | w + 1 => by
    have ih := rows_len n w
    rw [rows, List.length_flatMap]
    have e : (List.map (fun a => ((List.range n).map fun (t : Nat) => a ++ [(t : Int)]).length) (rows n w)) = List.replicate (rows n w).length n := by
      rw [List.eq_replicate_iff]
      refine ⟨by rw [List.length_map], fun b hb => ?_⟩
      obtain ⟨a, _, rfl⟩ := List.mem_map.mp hb
      rw [List.length_map, List.length_range]
    rw [e, List.sum_replicate_nat, ih, Nat.pow_succ]
theorem rows_mem {n : Nat} : ∀ {w : Nat} {r : List Int}, r ∈ rows n w → r.length = w ∧ ∀ x ∈ r, 0 ≤ x ∧ x < (n : Int)
  | 0, r, h => by
    rw [List.mem_singleton.mp h]
    exact ⟨rfl, fun x hx => by cases hx⟩
  | w + 1, r, h => by
    obtain ⟨a, ha, hr⟩ := List.mem_flatMap.mp h
    obtain ⟨t, ht, rfl⟩ := List.mem_map.mp hr
    obtain ⟨h1, h2⟩ := rows_mem ha
    refine ⟨by rw [List.length_append, h1]; rfl, fun x hx => ?_⟩
    rcases List.mem_append.mp hx with hx | hx
    · exact h2 x hx
    · rw [List.mem_singleton.mp hx]
      have := List.mem_range.mp ht
      omega
def LtL : List Int → List Int → Prop
  | a :: as, b :: bs => a < b ∨ (a = b ∧ LtL as bs)
  | _, _ => False
theorem ltl_app : ∀ {a b : List Int} (c d : List Int), LtL a b → LtL (a ++ c) (b ++ d)
  | x :: xs, y :: ys, c, d, h => by
    rcases h with h | ⟨h1, h2⟩
    · exact .inl h
    · exact .inr ⟨h1, ltl_app c d h2⟩
theorem ltl_last : ∀ (a : List Int) {x y : Int}, x < y → LtL (a ++ [x]) (a ++ [y])
  | [], x, y, h => .inl h
  | z :: zs, x, y, h => .inr ⟨rfl, ltl_last zs h⟩
theorem rows_sorted (n : Nat) : ∀ w, (rows n w).Pairwise LtL
  | 0 => List.pairwise_singleton _ _
  | w + 1 => by
    rw [rows, List.pairwise_flatMap]
    refine ⟨fun r _ => ?_, (rows_sorted n w).imp fun {a b} h x hx y hy => ?_⟩
    · rw [List.pairwise_map]
      exact List.pairwise_lt_range.imp fun {i j} h => ltl_last r (by omega)
    · obtain ⟨i, _, rfl⟩ := List.mem_map.mp hx
      obtain ⟨j, _, rfl⟩ := List.mem_map.mp hy
      exact ltl_app _ _ h
def one (n : Nat) (ws : List Int) (j : Nat) : List (Int × List Int) := (rows n ((ws.getD j 0).toNat)).map fun r => ((j : Int), r)
/-- the fillings of the first i trays -/
def fills (n : Nat) (ws : List Int) (i : Nat) : List (Int × List Int) := (List.range i).flatMap (one n ws)
theorem fills_succ (n : Nat) (ws : List Int) (i : Nat) : fills n ws (i + 1) = fills n ws i ++ one n ws i := by
  unfold fills
  rw [List.range_succ, List.flatMap_append]
  simp
theorem fills_len {n : Nat} {ws : List Int} : ∀ {i : Nat}, i ≤ ws.length → ((fills n ws i).length : Int) = cnt (n : Int) (ws.take i)
  | 0, _ => by
    rw [List.take_zero]
    rfl
  | i + 1, h => by
    have ih := fills_len (n := n) (ws := ws) (i := i) (by omega)
    have g : ws[i]? = some ws[i] := List.getElem?_eq_getElem (by omega)
    rw [fills_succ, List.length_append, cnt_take g]
    unfold one
    rw [List.length_map, rows_len, List.getD_eq_getElem?_getD, g]
    show (((fills n ws i).length + n ^ ws[i].toNat : Nat) : Int) = _
    rw [Int.natCast_add, ih, Int.natCast_pow]
def LtP (a b : Int × List Int) : Prop := a.1 < b.1 ∨ (a.1 = b.1 ∧ LtL a.2 b.2)
theorem fills_sorted (n : Nat) (ws : List Int) (i : Nat) : (fills n ws i).Pairwise LtP := by
  unfold fills
  rw [List.pairwise_flatMap]
  refine ⟨fun j _ => ?_, List.pairwise_lt_range.imp fun {a b} h x hx y hy => ?_⟩
  · unfold one
    rw [List.pairwise_map]
    exact (rows_sorted n _).imp fun h => .inr ⟨rfl, h⟩
  · obtain ⟨r, _, rfl⟩ := List.mem_map.mp hx
    obtain ⟨q, _, rfl⟩ := List.mem_map.mp hy
    exact .inl (show (a : Int) < (b : Int) by omega)
theorem fills_mem {n : Nat} {ws : List Int} {i : Nat} {p : Int × List Int} (hi : i ≤ ws.length) (hw : ∀ x ∈ ws, 0 ≤ x ∧ x ≤ 12) (h : p ∈ fills n ws i) : 0 ≤ p.1 ∧ p.1 < (ws.length : Int) ∧ ws[p.1.toNat]? = some ((p.2.length : Nat) : Int) ∧ ∀ x ∈ p.2, 0 ≤ x ∧ x < (n : Int) := by
  obtain ⟨j, hj, hp⟩ := List.mem_flatMap.mp h
  have hj' := List.mem_range.mp hj
  obtain ⟨r, hr, rfl⟩ := List.mem_map.mp hp
  obtain ⟨h1, h2⟩ := rows_mem hr
  have g : ws[j]? = some ws[j] := List.getElem?_eq_getElem (by omega)
  have hb := hw ws[j] (List.getElem_mem _)
  refine ⟨by omega, by show (j : Int) < _; omega, ?_, h2⟩
  show ws[((j : Int)).toNat]? = some ((r.length : Nat) : Int)
  rw [h1, List.getD_eq_getElem?_getD, g, Int.toNat_natCast]
  rw [g]
  congr 1
  show ws[j] = ((ws[j].toNat : Nat) : Int)
  omega
theorem pow_le_of {n : Nat} {i w : Nat} (h : i ≤ w) (hw : n ^ w ≤ 2000) : n ^ i ≤ 2000 := by
  cases n with
  | zero =>
    cases i with
    | zero => exact by decide
    | succ i => rw [Nat.zero_pow (by omega)]; omega
  | succ n => exact Nat.le_trans (Nat.pow_le_pow_right (by omega) h) hw
/-! ### < of pairs as the model has it -/
def dPair (p : Int × List Int) : PyData := .tuple [.int p.1, .tuple (p.2.map PyData.int)]
theorem alike_ints : ∀ a b : List Int, PySem.W.alikeAll (a.map PyData.int) (b.map PyData.int) = true
  | [], b => by simp [PySem.W.alikeAll]
  | x :: a, [] => by simp [PySem.W.alikeAll]
  | x :: a, y :: b => by
    have ih := alike_ints a b
    simp only [List.map_cons, PySem.W.alikeAll, PySem.W.alike, Bool.true_and]
    exact ih
theorem alike_pair (p q : Int × List Int) : PySem.W.alike (dPair p) (dPair q) = true := by
  have h := alike_ints p.2 q.2
  simp only [dPair, PySem.W.alike, PySem.W.alikeAll, h, Bool.and_true]
theorem eqv_ints_ne {a b : Int} (h : a ≠ b) : PyData.eqv (.int a) (.int b) = false := by
  simp only [PyData.eqv]
  exact beq_eq_false_iff_ne.mpr h
theorem eqv_int (a : Int) : PyData.eqv (.int a) (.int a) = true := by
  simp only [PyData.eqv]
  exact beq_self_eq_true a
theorem ltl_data : ∀ {a b : List Int}, LtL a b → PyProof.Rows.lexLt PyProof.Rows.itemOrd (PySem.W.keyToksAll (a.map PyData.int)) (PySem.W.keyToksAll (b.map PyData.int)) = true ∧ PyData.eqvAll (a.map PyData.int) (b.map PyData.int) = false
  | x :: xs, y :: ys, h => by
    rw [List.map_cons, List.map_cons]
    by_cases e : x = y
    · subst e
      rcases h with h | ⟨_, h⟩
      · exact absurd h (Int.lt_irrefl x)
      · obtain ⟨h1, h2⟩ := ltl_data h
        refine ⟨?_, ?_⟩
        · rw [PySem.W.dataLt_all_yes (by simp [PySem.W.alike]) (eqv_int x)]
          exact h1
        · rw [PySem.W.eqv_all_cons, h2, Bool.and_false]
    · have hlt : x < y := by
        rcases h with h | ⟨h, _⟩
        · exact h
        · exact absurd h e
      refine ⟨?_, ?_⟩
      · rw [PySem.W.dataLt_all_no (by simp [PySem.W.alike]) (eqv_ints_ne e), PySem.W.dataLt_int]
        exact decide_eq_true hlt
      · rw [PySem.W.eqv_all_cons, eqv_ints_ne e, Bool.false_and]
theorem ltp_data {p q : Int × List Int} (h : LtP p q) : PySem.W.dataLt (dPair p) (dPair q) = true := by
  unfold dPair
  rw [PySem.W.dataLt_tuple]
  by_cases e : p.1 = q.1
  · rcases h with h | ⟨_, h⟩
    · omega
    · obtain ⟨h1, h2⟩ := ltl_data h
      rw [e, PySem.W.dataLt_all_yes (by simp [PySem.W.alike]) (eqv_int q.1)]
      rw [PySem.W.dataLt_all_no (by simp only [PySem.W.alike]; exact alike_ints _ _) (by simp only [PyData.eqv]; exact h2), PySem.W.dataLt_tuple]
      exact h1
  · rw [PySem.W.dataLt_all_no (by simp [PySem.W.alike]) (eqv_ints_ne e), PySem.W.dataLt_int]
    rcases h with h | ⟨h, _⟩
    · exact decide_eq_true h
    · exact absurd h e
/-- the inner walk over a range of a comprehension with two fors -/
theorem in_range {n : Nat} {g : TG} {tt : TT} {te : TE} {vs : List Nat} {σ : L2.St} {H4 : Hp} {D : Addr} {Nx : Hp → Prop} (Pv : Nat → Hp → Prop) (h0 : Pv 0 H4)
    (hs : ∀ j H, j < n → Pv j H → g (.int (0 + j)) (wipe σ vs) H fun σ3 H5 => wipe σ3 vs = wipe σ vs ∧ tt σ3 H5 fun b H6 => if b = true then te σ3 H6 fun y H7 => ∃ acc, H7 D = some (.lst acc) ∧ acc.length < sizeLine ∧ Pv (j + 1) (upd H7 D (.lst (acc ++ [y]))) else Pv (j + 1) H6)
    (hd : ∀ H, Pv n H → Nx H) :
    ∃ W1 : Nat → Nat → Hp → Prop, (∃ m, W1 0 m H4) ∧ ∀ j k H, W1 j k H → ((Itr 0 n).stop j H ∧ Nx H) ∨ ((Itr 0 n).go j H ∧ ∃ Nx1 : Hp → Prop, (∀ H', Nx1 H' → ∃ k', k' < k ∧ W1 (j + 1) k' H') ∧ ∀ x H', (Itr 0 n).yld j H x H' → g x (wipe σ vs) H' fun σ3 H5 => wipe σ3 vs = wipe σ vs ∧ tt σ3 H5 fun b H6 =>
      if b = true then te σ3 H6 fun y H7 => ∃ acc, H7 D = some (.lst acc) ∧ acc.length < sizeLine ∧ Nx1 (upd H7 D (.lst (acc ++ [y]))) else Nx1 H6) := by
  refine ⟨fun j m H => m = n - j ∧ j ≤ n ∧ Pv j H, ⟨n, by omega, Nat.zero_le _, h0⟩, fun j k H hW => ?_⟩
  obtain ⟨rfl, hj, p⟩ := hW
  by_cases hlt : j < n
  · refine .inr ⟨hlt, Pv (j + 1), fun H' p' => ⟨n - (j + 1), by omega, rfl, hlt, p'⟩, fun x H' y => ?_⟩
    obtain ⟨e, y⟩ := y
    subst e y
    exact hs j _ hlt p
  · obtain rfl : j = n := by omega
    exact .inl ⟨Nat.le_refl _, hd H p⟩
/-- the outer walk over a list -/
theorem out_list {K : PySem.W.Frag} {a : Addr} {xs : List V} {D : Addr} {H1 : Hp} {Qd : Hp → Prop} {body : (Hp → Prop) → V → Hp → Prop} (Pv : Nat → Hp → Prop) (h0 : Pv 0 (upd H1 D (.lst []))) (hl : ∀ i H, i ≤ xs.length → Pv i H → SqL K H a xs)
    (hs : ∀ i x H, xs[i]? = some x → Pv i H → body (Pv (i + 1)) x H) (hd : ∀ H, Pv xs.length H → Qd H) :
    ∃ W : Nat → Nat → Hp → Prop, (∃ m, W 0 m (upd H1 D (.lst []))) ∧ ∀ i m H, W i m H → ((Itl K a).stop i H ∧ Qd H) ∨ ((Itl K a).go i H ∧ ∃ Nx : Hp → Prop, (∀ H', Nx H' → ∃ m', m' < m ∧ W (i + 1) m' H') ∧ ∀ x H', (Itl K a).yld i H x H' → body Nx x H') := by
  refine ⟨fun i m H => m = xs.length - i ∧ i ≤ xs.length ∧ Pv i H, ⟨xs.length, by omega, Nat.zero_le _, h0⟩, fun i m H hW => ?_⟩
  obtain ⟨rfl, hi, p⟩ := hW
  have q := hl i H hi p
  by_cases hlt : i < xs.length
  · refine .inr ⟨⟨xs, xs[i], q, by simp [hlt]⟩, Pv (i + 1), fun H' p' => ⟨xs.length - (i + 1), by omega, rfl, hlt, p'⟩, fun x H' y => ?_⟩
    obtain ⟨e, y⟩ := y
    subst e
    exact hs i x _ (y xs q) p
  · obtain rfl : i = xs.length := by omega
    exact .inl ⟨⟨xs, q, Nat.le_refl _⟩, hd H p⟩
def topS (i : Nat) : Stmt := PySem.Challenge.pw_traymap_k04_all_fillings.main.body.getD i (.Pass ⟨0, 0, 0, 0⟩)
abbrev sTray : Stmt := topS 11
abbrev sMany : Stmt := topS 12
abbrev sRise : Stmt := topS 13
abbrev sAll : Stmt := topS 14
abbrev sSource : Stmt := topS 16
abbrev sNext : Stmt := topS 17
abbrev sWhole : Stmt := topS 18
abbrev sDrawn : Stmt := topS 19
abbrev sCount : Stmt := topS 20
abbrev sRight : Stmt := topS 21
abbrev sLaw : Stmt := topS 22
theorem scTray : FnScope ["wells", "number", "choices", "many", "well"] ["wells", "number"] (defScope sTray) := ⟨rfl, rfl, rfl, by decide +kernel, rfl, by decide +kernel, by decide +kernel⟩
theorem scMany : FnScope ["crate", "number", "wells"] ["crate", "number"] (defScope sMany) := ⟨rfl, rfl, rfl, by decide +kernel, rfl, by decide +kernel, by decide +kernel⟩
theorem scRise : FnScope ["wells", "number", "rows", "well", "row", "thing"] ["wells", "number"] (defScope sRise) := ⟨rfl, rfl, rfl, by decide +kernel, rfl, by decide +kernel, by decide +kernel⟩
theorem scAll : FnScope ["crate", "number", "fillings", "tray", "wells", "things"] ["crate", "number"] (defScope sAll) := ⟨rfl, rfl, rfl, by decide +kernel, rfl, by decide +kernel, by decide +kernel⟩
theorem scSource : FnScope ["script", "seed", "cell"] ["script"] (defScope sSource) := ⟨rfl, rfl, rfl, by decide +kernel, rfl, by decide +kernel, by decide +kernel⟩
theorem scNext : FnScope ["source", "many", "cell", "drawn"] ["source", "many"] (defScope sNext) := ⟨rfl, rfl, rfl, by decide +kernel, rfl, by decide +kernel, by decide +kernel⟩
theorem scWhole : FnScope ["thing"] ["thing"] (defScope sWhole) := ⟨rfl, rfl, rfl, by decide +kernel, rfl, by decide +kernel, by decide +kernel⟩
theorem scDrawn : FnScope ["source", "size", "most", "number", "way", "many", "idle_ones", "k"] ["source"] (defScope sDrawn) := ⟨rfl, rfl, rfl, by decide +kernel, rfl, by decide +kernel, by decide +kernel⟩
theorem scCount : FnScope ["crate", "number", "found", "wells", "some", "well"] ["crate", "number"] (defScope sCount) := ⟨rfl, rfl, rfl, by decide +kernel, rfl, by decide +kernel, by decide +kernel⟩
theorem scRight : FnScope ["crate", "number", "many", "told", "behind", "one", "thing"] ["crate", "number", "many", "told"] (defScope sRight) := ⟨rfl, rfl, rfl, by decide +kernel, rfl, by decide +kernel, by decide +kernel⟩
theorem scLaw : FnScope ["script", "source", "crate", "number", "many", "told", "refused", "e", "other"] ["script"] (defScope sLaw) := ⟨rfl, rfl, rfl, by decide +kernel, rfl, by decide +kernel, by decide +kernel⟩
section
variable {P : Program} {w : World} {K : PySem.W.Frag} {mg : Str → Option Value} {base : Heap}
/-! ### _law_next -/
def spNext : Sp := fun vs H Q _ => ∃ (p l : Addr) (m : Int), vs = [.ref p, .int m] ∧ Sc p l H ∧ 0 < m ∧ m.natAbs.log2 < 9000 ∧ ∀ r H', 0 ≤ r → r < m → Sc p l H' → Kp p l H H' → Q (.int r) H'
theorem ok_next {f : Addr} {fd : FuncData} {k : Nat} (F : Fun K "_law_next" "_law_next" sNext f fd) (mabs : mg "abs" = none) : FnOk P w K mg base CX0 (k + 1) f fd ["source", "many"] spNext := by
  refine F.ok scNext (fun vs H Q E h => ?_) (fun cdv A outer s H vs Q E hr h => ?_)
  · obtain ⟨p, l, m, rfl, _⟩ := h
    rfl
  · obtain ⟨p, l, m, rfl, hS, hm, hw, q⟩ := h
    refine ⟨_, C8.pss_cut (ps_if (PW.pt (pw_and (pt_cmpR op_eq (pe_ix ix_list (pv 0) pe_int (fun _ _ => rfl)) pe_int (nomark _)) (pw_and1 (pt_cmpR (op_neD hr.units) (pe_ix ix_list (pv 0) pe_int (fun _ _ => rfl)) (pe_lst pa_nil) (nomark _)))))
        (pss_cons (ps_set (i := 2) scNext.nd rfl (.inl rfl) (pe_bm PySem.F.plainAttrs_list PySem.F.slot_list_pop PySem.F.type_list_pop mt_popAt (pe_ix ix_list (pv 0) pe_int (fun _ _ => rfl)) (pa_cons pe_int pa_nil)))
        (pss_cons (ps_if (pt_cmpR op_lt (pe_callB call_abs (by rfl) mabs (by decide +kernel) (pa_cons (pv 2) pa_nil)) (pe_op op_pow pe_int pe_int) (nomark _)) (pss_one (ps_ret (pe_op op_mod (pv 2) (pv 1)))) pss_nil)
        (pss_one (ps_asg (pe_callB call_abs (by rfl) mabs (by decide +kernel) (pa_cons (pv 2) pa_nil)) (pg_sub (pv 0) pe_int set_list)))))
        pss_nil)
      (pss_cons (ps_if (pt_cmpR op_gt (pe_ix ix_list (pv 0) pe_int (fun _ _ => rfl)) pe_int (nomark _))
          (pss_cons (ps_set (i := 3) scNext.nd rfl (.inl rfl) (pe_op op_mod (pe_ix ix_list (pv 0) pe_int (fun _ _ => rfl)) (pv 1)))
          (pss_cons (ps_asg (pe_op op_fdivW (pe_ix ix_list (pv 0) pe_int (fun _ _ => rfl)) (pv 1)) (pg_sub (pv 0) pe_int set_list))
          (pss_one (ps_ret (pv 3))))) pss_nil)
      (pss_cons (ps_asg (pe_op op_mod (pe_op op_add (pe_op op_mul (pe_ix ix_list (pv 0) pe_int (fun _ _ => rfl)) (pe_ix ix_list (pv 0) pe_int (fun _ _ => rfl))) pe_int) pe_int) (pg_sub (pv 0) pe_int set_list))
      (pss_one (ps_ret (pe_op op_mod (pe_op op_fdiv (pe_ix ix_list (pv 0) pe_int (fun _ _ => rfl)) pe_int) (pv 1)))))), ?_⟩
    refine ⟨fun σ' H' => ∃ c2 c3, σ' = [some (.ref p), some (.int m), c2, c3] ∧ Sc p l H' ∧ Kp p l H H', ?_, fun σ' H' hM => ?_⟩
    · obtain ⟨npl, ns, a, b, hp, hl, ha, hb, hb2⟩ := hS
      -- source[1] == 0
      refine ⟨.ref p, rfl, p, _, 1, .int a, rfl, rfl, SqL.of hp, atI_nat (j := 1) rfl, rfl, _, rfl, ?_⟩
      by_cases e1 : ¬ a = 0
      · rw [decide_eq_false (show ¬ (V.int a = V.int 0) from fun z => e1 (V.int.inj z))]
        refine iteF (iteF ?_)
        exact ⟨_, _, rfl, ⟨npl, ns, a, b, hp, hl, ha, hb, hb2⟩, Kp.refl H⟩
      · have e1 : a = 0 := Decidable.of_not_not e1
        subst e1
        rw [decide_eq_true (show V.int 0 = V.int 0 from rfl)]
        refine iteT ?_
        -- source[0] != []
        refine ⟨.ref p, rfl, p, _, 0, .ref l, rfl, rfl, SqL.of hp, atI_nat (j := 0) rfl, Nat.zero_le _, fun e he => ?_⟩
        have hp1 : (upd H e (.lst [])) p = some (.lst [.ref l, .int 0, .int b]) := same_upd he _ _ hp
        have hl1 : (upd H e (.lst [])) l = some (.lst (ns.map V.int)) := same_upd he _ _ hl
        refine ⟨.list (ns.map PyData.int), .list [], .lst (SqL.of hl1) (dpAll_int ns), .lst (SqL.of upd_same) .nil, shaped_ints ns, shaped_ints [], _, rfl, ?_⟩
        rw [eqv_nil]
        cases ns with
        | nil =>
          refine iteF ?_
          exact ⟨_, _, rfl, ⟨npl, [], 0, b, hp1, hl1, ha, hb, hb2⟩, (Kp.refl H).upd he⟩
        | cons n r =>
          refine iteT ?_
          -- cell = source[0].pop(0)
          refine ⟨.ref p, rfl, p, _, 0, .ref l, rfl, rfl, SqL.of hp1, atI_nat (j := 0) rfl, .inl ⟨rfl, _, SqL.of hl1⟩, l, _, 0, 0, .int n, rfl, rfl, hl1, by decide, by decide, ?_, rfl, ?_⟩
          · unfold seqIndex?
            simp
          · -- abs(cell) < 10 ** 18
            have hp2 : (upd (upd H e (.lst [])) l (.lst (((n :: r).map V.int).eraseIdx 0))) p = some (.lst [.ref l, .int 0, .int b]) := by
              rw [upd_ne npl]
              exact hp1
            have hl2 : (upd (upd H e (.lst [])) l (.lst (((n :: r).map V.int).eraseIdx 0))) l = some (.lst (r.map V.int)) := upd_same
            have k2 : Kp p l H (upd (upd H e (.lst [])) l (.lst (((n :: r).map V.int).eraseIdx 0))) := ((Kp.refl H).upd he).updl
            refine ⟨.int n, rfl, n, rfl, _, _, rfl, rfl, ⟨by decide, by decide, by decide⟩, _, _, rfl, rfl, _, rfl, ite2 (fun _ => ?_) (fun _ => ?_)⟩
            · refine ⟨.int n, rfl, .int m, rfl, n, m, rfl, rfl, hm, ?_⟩
              exact q _ _ (Int.emod_nonneg _ (by omega)) (Int.emod_lt_of_pos _ hm) ⟨npl, r, 0, b, hp2, hl2, ha, hb, hb2⟩ k2
            · -- source[1] = abs(cell)
              refine ⟨.int n, rfl, n, rfl, .ref p, rfl, p, _, 1, 1, rfl, rfl, hp2, rfl, ?_⟩
              refine ⟨_, _, rfl, ⟨npl, r, if n < 0 then -n else n, b, upd_same, ?_, ?_, hb, hb2⟩, k2.updp⟩
              · rw [upd_ne npl.symm]
                exact hl2
              · split <;> omega
    · -- the rest
      obtain ⟨c2, c3, rfl, ⟨npl, ns, a, b, hp, hl, ha, hb, hb2⟩, k1⟩ := hM
      refine ⟨.ref p, rfl, p, _, 1, .int a, rfl, rfl, SqL.of hp, atI_nat (j := 1) rfl, _, _, rfl, rfl, _, rfl, ite2 (fun e => ?_) (fun e => ?_)⟩
      · -- drawn = source[1] % many
        refine ⟨.ref p, rfl, p, _, 1, .int a, rfl, rfl, SqL.of hp, atI_nat (j := 1) rfl, .int m, rfl, a, m, rfl, rfl, hm, ?_⟩
        -- source[1] = source[1] // many
        refine ⟨.ref p, rfl, p, _, 1, .int a, rfl, rfl, SqL.of hp, atI_nat (j := 1) rfl, .int m, rfl, a, m, rfl, rfl, ⟨hm, hw⟩, .ref p, rfl, p, _, 1, 1, rfl, rfl, hp, rfl, ?_⟩
        refine ⟨_, rfl, ?_⟩
        refine q _ _ (Int.emod_nonneg _ (by omega)) (Int.emod_lt_of_pos _ hm) ⟨npl, ns, a / m, b, upd_same, ?_, Int.ediv_nonneg ha (by omega), hb, hb2⟩ k1.updp
        rw [upd_ne npl.symm]
        exact hl
      · -- source[2] = (source[2] * source[2] + 1000003) % 998244353
        refine ⟨.ref p, rfl, p, _, 2, .int b, rfl, rfl, SqL.of hp, atI_nat (j := 2) rfl, .ref p, rfl, p, _, 2, .int b, rfl, rfl, SqL.of hp, atI_nat (j := 2) rfl, b, b, rfl, rfl, .inl ⟨by omega, by omega⟩, _, _, rfl, rfl, _, 998244353, rfl, rfl, (show (0 : Int) < 998244353 by decide), .ref p, rfl, p, _, 2, 2, rfl, rfl, hp, rfl, ?_⟩
        have hp3 : (upd H' p (.lst [.ref l, .int a, .int ((b * b + 1000003) % 998244353)])) p = some (.lst [.ref l, .int a, .int ((b * b + 1000003) % 998244353)]) := upd_same
        refine ⟨.ref p, rfl, p, _, 2, .int ((b * b + 1000003) % 998244353), rfl, rfl, SqL.of hp3, atI_nat (j := 2) rfl, _, _, rfl, rfl, ⟨by decide, by decide⟩, .int m, rfl, _, m, rfl, rfl, hm, ?_⟩
        refine q _ _ (Int.emod_nonneg _ (by omega)) (Int.emod_lt_of_pos _ hm) ⟨npl, ns, a, (b * b + 1000003) % 998244353, hp3, ?_, ha, by omega, by omega⟩ k1.updp
        rw [upd_ne npl.symm]
        exact hl
/-! ### _law_source -/
def spSource (K : PySem.W.Frag) : Sp := fun vs H Q _ => ∃ (a : Addr) (ns : List Int), vs = [.ref a] ∧ SqL K H a (ns.map V.int) ∧ ∀ p l H', Same H H' → H p = none → H l = none → Sc p l H' → Q (.ref p) H'
theorem ok_source {f : Addr} {fd : FuncData} {k : Nat} (F : Fun K "_law_source" "_law_source" sSource f fd) (ml : mg "list" = none) : FnOk P w K mg base CX0 (k + 1) f fd ["script"] (spSource K) := by
  refine F.ok scSource (fun vs H Q E h => ?_) (fun cdv A outer s H vs Q E hr h => ?_)
  · obtain ⟨a, ns, rfl, _⟩ := h
    rfl
  · obtain ⟨a, ns, rfl, hS, q⟩ := h
    refine ⟨_, pss_cons (ps_set (i := 1) scSource.nd rfl (.inl rfl) pe_int)
      (pss_cons (ps_for PassesOwn.never rfl (pi_list (pv 0)) (pg_name (i := 2) scSource.nd rfl (.inl rfl))
        (pss_one (ps_set (i := 1) scSource.nd rfl (.inl rfl) (pe_op op_mod (pe_op op_add (pe_op op_mul (pv 1) pe_int) (pv 2)) pe_int))))
      (pss_one (ps_ret (pe_lst (pa_cons (pe_callTy call_list_of (by rfl) ml (by decide +kernel) (pa_cons (pv 0) pa_nil)) (pa_cons pe_int (pa_cons (pv 1) pa_nil))))))), ?_⟩
    refine ⟨.ref a, rfl, a, rfl, ⟨_, hS⟩, for_list (K := K) (xs := ns.map V.int) (fun i σ H1 => ∃ c s2, σ = [some (.ref a), some (.int c), s2] ∧ 0 ≤ c ∧ c < 998244353 ∧ H1 = H) ⟨_, _, rfl, by decide, by decide, rfl⟩ (fun i σ H1 _ h => ?_) (fun i x σ H1 hx h => ?_) (fun σ H1 h => ?_)⟩
    · obtain ⟨c, s2, rfl, _, _, rfl⟩ := h
      exact hS
    · obtain ⟨c, s2, rfl, h1, h2, rfl⟩ := h
      obtain ⟨n, _, rfl⟩ := map_get hx
      refine ⟨_, rfl, c, _, rfl, rfl, .inl ⟨by omega, by omega⟩, _, rfl, _, n, rfl, rfl, _, 998244353, rfl, rfl, (show (0 : Int) < 998244353 by decide), ?_⟩
      exact ⟨_, _, rfl, Int.emod_nonneg _ (by decide), Int.emod_lt_of_pos _ (by decide), rfl⟩
    · obtain ⟨c, s2, rfl, h1, h2, rfl⟩ := h
      refine ⟨.ref a, rfl, a, _, rfl, .inl hS, fun l hl => ?_⟩
      refine ⟨_, rfl, (show 3 ≤ sizeLine by decide), fun p hp => ?_⟩
      have npl : p ≠ l := fun e => by
        rw [e, upd_same] at hp
        cases hp
      refine q p l _ ((same_upd hl).trans (same_upd hp)) ?_ hl ⟨npl, ns, 0, c, upd_same, ?_, by decide, h1, h2⟩
      · exact (same_upd hl).free hp
      · rw [upd_ne npl.symm, upd_same]
/-! ### how_many_of_tray -/
def spTray : Sp := fun vs H Q _ => ∃ (x n : Int), vs = [.int x, .int n] ∧ 0 ≤ x ∧ x ≤ 1000 ∧ 0 ≤ n ∧ n ≤ 1000 ∧ Q (.int (n ^ x.toNat)) H
theorem ok_tray {f : Addr} {fd : FuncData} {k : Nat} (F : Fun K "how_many_of_tray" "how_many_of_tray" sTray f fd) (mx : mg "max" = none) (mr : mg "range" = none) : FnOk P w K mg base CX0 (k + 1) f fd ["wells", "number"] spTray := by
  refine F.ok scTray (fun vs H Q E h => ?_) (fun cdv A outer s H vs Q E hr h => ?_)
  · obtain ⟨x, n, rfl, _⟩ := h
    rfl
  · obtain ⟨x, n, rfl, x0, x1, n0, n1, q⟩ := h
    refine ⟨_, pss_cons (ps_set (i := 2) scTray.nd rfl (.inl rfl) (pe_callB (call_max2 rfl) (by rfl) mx (by decide +kernel) (pa_cons pe_int (pa_cons (pv 1) pa_nil))))
      (pss_cons (ps_set (i := 3) scTray.nd rfl (.inl rfl) pe_int)
      (pss_cons (ps_for PassesOwn.never rfl (pi_range1 rfl mr (pa_cons (pv 0) pa_nil)) (pg_name (i := 4) scTray.nd rfl (.inl rfl))
        (pss_one (ps_set (i := 3) scTray.nd rfl (.inl rfl) (pe_op op_mul (pv 3) (pv 2)))))
      (pss_one (ps_ret (pv 3))))), ?_⟩
    refine ⟨.int n, rfl, 0, n, rfl, ?_⟩
    rw [show (if n > (0 : Int) then n else 0) = n by split <;> omega]
    refine ⟨.int x, rfl, x, rfl, by omega, by omega, for_range (lo := 0) (n := x.toNat) (fun i σ H1 => ∃ s4, σ = [some (.int x), some (.int n), some (.int n), some (.int (n ^ i)), s4] ∧ H1 = H) ⟨_, by rw [Int.pow_zero]; rfl, rfl⟩ (fun i σ H1 hi h => ?_) (fun σ H1 h => ?_)⟩
    · obtain ⟨s4, rfl, rfl⟩ := h
      refine ⟨_, rfl, _, rfl, n ^ i, n, rfl, rfl, .inr ⟨by omega, by omega⟩, ?_⟩
      exact ⟨_, by rw [Int.pow_succ]; rfl, rfl⟩
    · obtain ⟨s4, rfl, rfl⟩ := h
      exact ⟨_, rfl, q⟩
/-! ### how_many -/
def spMany (K : PySem.W.Frag) : Sp := fun vs H Q _ => ∃ (t : Addr) (ws : List Int) (n : Int), vs = [.ref t, .int n] ∧ SqT K H t (ws.map V.int) ∧ ws.length ≤ 60 ∧ (∀ x ∈ ws, 0 ≤ x ∧ x ≤ 12) ∧ 0 ≤ n ∧ n ≤ 1000 ∧ ∀ H', Same H H' → Q (.int (cnt n ws)) H'
theorem ok_many {f fT : Addr} {fd fdT : FuncData} {k : Nat} (F : Fun K "how_many" "how_many" sMany f fd) (FT : Fun K "how_many_of_tray" "how_many_of_tray" sTray fT fdT) (bT : Binds K fdT ["wells", "number"] []) (gT : mg "how_many_of_tray" = some (.ref fT)) (mx : mg "max" = none) (mr : mg "range" = none) (ms : mg "sum" = none) : FnOk P w K mg base CX0 (k + 1 + 1) f fd ["crate", "number"] (spMany K) := by
  have GT : FnOk P w K mg base CX0 (k + 1) fT fdT ["wells", "number"] spTray := ok_tray FT mx mr
  refine F.ok scMany (fun vs H Q E h => ?_) (fun cdv A outer s H vs Q E hr h => ?_)
  · obtain ⟨t, ws, n, rfl, _⟩ := h
    rfl
  · obtain ⟨t, ws, n, rfl, hT, hl, ha, n0, n1, q⟩ := h
    refine ⟨_, pss_one (ps_ret (pe_callB (cr_sum rfl) (by rfl) ms (by decide +kernel) (pa_cons (pe_lc (own := [("wells", 2)]) (g := gName 2) (tt := tYes) rfl scMany.nd (pi_tup (pv 0)) (blkOk_by (N := ["crate", "number", "wells"]) (sc := defScope sMany) (by decide +kernel)) (fun _ _ _ _ _ => pg_name (i := 2) scMany.nd rfl (Or.inl rfl)) (fun _ _ _ _ _ => pts_nil)
        (fun _ _ _ _ _ => pe_call GT hr (by rfl) gT FT.kp bT .nil pass0 (pa_cons (pv 2) (pa_cons (pv 1) pa_nil)))) pa_nil))), ?_⟩
    refine ⟨.ref t, rfl, t, rfl, ⟨_, hT⟩, fun D hD => lc_tup (K := K) (a := t) (xs := ws.map V.int) (fun i H1 => Same H H1 ∧ H1 D = some (.lst (((ws.take i).map fun x => n ^ x.toNat).map V.int))) ⟨same_upd hD, upd_same⟩ (fun i H1 _ h => Same.tup h.1 hT) (fun i x H1 hx h => ?_) (fun H1 h => ?_)⟩
    · obtain ⟨y, hy, rfl⟩ := map_get hx
      have hb := ha y (List.mem_of_getElem? hy)
      refine ⟨rfl, _, rfl, _, rfl, y, n, rfl, hb.1, by omega, n0, n1, _, h.2, ?_, fun b o e => ?_, ?_⟩
      · rw [List.length_map, List.length_map, List.length_take]
        exact small1000 (by omega)
      · rw [upd_ne (ne_of_none e hD)]
        exact h.1 b o e
      · rw [upd_same, List.take_add_one, hy, List.map_append, List.map_append]
        rfl
    · have e := h.2
      rw [List.length_map, List.take_length] at e
      exact ⟨D, _, rfl, SqL.of e, q _ h.1⟩
end
theorem small2000 {n : Nat} (h : n ≤ 3000) : n < sizeLine := Nat.lt_of_le_of_lt h (by decide)
/-- what H says of tuples H' says too -/
def KeepT (H H' : Hp) : Prop := ∀ a ys, H a = some (.tup ys) → H' a = some (.tup ys)
theorem KeepT.of_same {H H' : Hp} (h : Same H H') : KeepT H H' := fun a ys e => h a _ e
theorem keep_lst {H : Hp} {D : Addr} {acc acc' : List V} (h : H D = some (.lst acc)) : KeepT H (upd H D (.lst acc')) := fun a ys e => by
  rw [upd_ne (ne_of e h (fun z => by cases z))]
  exact e
/-- xs are tuples of the rows rs -/
def Tups (H : Hp) (xs : List V) (rs : List (List Int)) : Prop := xs.length = rs.length ∧ ∀ (i : Nat) (x : V) (r : List Int), xs[i]? = some x → rs[i]? = some r → ∃ a, x = .ref a ∧ H a = some (.tup (r.map V.int))
theorem Tups.keep {H H' : Hp} {xs : List V} {rs : List (List Int)} (h : Tups H xs rs) (k : KeepT H H') : Tups H' xs rs := ⟨h.1, fun i x r h1 h2 => by
  obtain ⟨a, e, q⟩ := h.2 i x r h1 h2
  exact ⟨a, e, k _ _ q⟩⟩
theorem Tups.push {H : Hp} {xs : List V} {rs : List (List Int)} {a : Addr} {r : List Int} (h : Tups H xs rs) (e : H a = some (.tup (r.map V.int))) : Tups H (xs ++ [.ref a]) (rs ++ [r]) := by
  refine ⟨by rw [List.length_append, List.length_append, h.1]; rfl, fun i x q h1 h2 => ?_⟩
  by_cases hi : i < xs.length
  · rw [List.getElem?_append_left hi] at h1
    rw [List.getElem?_append_left (by rw [← h.1]; exact hi)] at h2
    exact h.2 i x q h1 h2
  · have hlt : i < (xs ++ [V.ref a]).length := (List.getElem?_eq_some_iff.mp h1).1
    rw [List.length_append] at hlt
    have ei : i = xs.length := by
      have : ([V.ref a] : List V).length = 1 := rfl
      omega
    subst ei
    rw [List.getElem?_append_right (Nat.le_refl _), Nat.sub_self] at h1
    rw [h.1, List.getElem?_append_right (Nat.le_refl _), Nat.sub_self] at h2
    cases h1
    cases h2
    exact ⟨a, rfl, e⟩
def ext (n : Nat) (r : List Int) : List (List Int) := (List.range n).map fun (t : Nat) => r ++ [(t : Int)]
theorem flat_len (n : Nat) : ∀ l : List (List Int), (l.flatMap (ext n)).length = l.length * n
  | [] => by simp
  | r :: l => by
    have ih := flat_len n l
    rw [List.flatMap_cons, List.length_append, ih]
    unfold ext
    rw [List.length_map, List.length_range, List.length_cons, Nat.add_mul]
    omega
section
variable {P : Program} {w : World} {K : PySem.W.Frag} {mg : Str → Option Value} {base : Heap}
/-! ### rising_things -/
def spRise : Sp := fun vs H Q _ => ∃ (wl n : Nat), vs = [.int (wl : Int), .int (n : Int)] ∧ wl ≤ 12 ∧ n ≤ 1000 ∧ n ^ wl ≤ 2000 ∧ ∀ R xs H', Same H H' → H R = none → H' R = some (.lst xs) → Tups H' xs (rows n wl) → Q (.ref R) H'
theorem ok_rise {f : Addr} {fd : FuncData} {k : Nat} (F : Fun K "rising_things" "rising_things" sRise f fd) (mr : mg "range" = none) : FnOk P w K mg base CX0 (k + 1) f fd ["wells", "number"] spRise := by
  refine F.ok scRise (fun vs H Q E h => ?_) (fun cdv A outer s H vs Q E hr h => ?_)
  · obtain ⟨wl, n, rfl, _⟩ := h
    rfl
  · obtain ⟨wl, n, rfl, hw, hn, hp, q⟩ := h
    refine ⟨_, pss_cons (ps_set (i := 2) scRise.nd rfl (.inl rfl) (pe_lst (pa_cons (pe_tup pa_nil) pa_nil)))
      (pss_cons (ps_for PassesOwn.never rfl (pi_range1 rfl mr (pa_cons (pv 0) pa_nil)) (pg_name (i := 3) scRise.nd rfl (.inl rfl))
        (pss_one (ps_setLc2 (i := 2) (own := [("row", 4), ("thing", 5)]) (vs1 := [5]) (g := gName 4) (tt := tYes) (g1 := gName 5) (tt1 := tYes) (te := tOp (rCatA K) (tVar 4) (tTup (tCons (tVar 5) tNil))) rfl scRise.nd rfl rfl (sw_true rfl rfl rfl (by decide +kernel)) (pi_list (pv 2)) (blkOk_by (N := ["wells", "number", "rows", "well", "row", "thing"]) (sc := defScope sRise) (by decide +kernel)) (by decide)
          (fun _ _ _ _ _ => pg_name (i := 4) scRise.nd rfl (Or.inl rfl)) (fun _ _ _ _ _ => pts_nil) (fun _ _ _ _ _ => pi_range1 rfl mr (pa_cons (pv 1) pa_nil)) (fun _ _ _ _ _ => pg_name (i := 5) scRise.nd rfl (Or.inl rfl)) (fun _ _ _ _ _ => pts_nil)
          (fun _ _ _ _ _ => pe_op op_catA (pv 4) (pe_tup (pa_cons (pv 5) pa_nil))))))
      (pss_one (ps_ret (pv 2)))), ?_⟩
    refine ⟨Nat.zero_le _, fun e0 h0 => ⟨(show 1 ≤ sizeLine by decide), fun R0 hR0 => ?_⟩⟩
    have sm0 : Same H (upd (upd H e0 (.tup [])) R0 (.lst [.ref e0])) := (same_upd h0).trans (same_upd hR0)
    refine ⟨.int (wl : Int), rfl, (wl : Int), rfl, by omega, by omega, for_range (lo := 0) (n := ((wl : Int)).toNat) (fun i σ H1 => ∃ R y3 xs, σ = [some (.int (wl : Int)), some (.int (n : Int)), some (.ref R), y3, none, none] ∧ Same H H1 ∧ H R = none ∧ H1 R = some (.lst xs) ∧ Tups H1 xs (rows n i)) ?_ (fun i σ H1 hi h => ?_) (fun σ H1 h => ?_)⟩
    · refine ⟨R0, none, [.ref e0], rfl, sm0, (same_upd h0).free hR0, upd_same, rfl, fun i x r h1 h2 => ?_⟩
      have hi : i = 0 := by
        have := (List.getElem?_eq_some_iff.mp h1).1
        have e : ([V.ref e0] : List V).length = 1 := rfl
        omega
      subst hi
      cases h1
      cases h2
      exact ⟨e0, rfl, same_upd hR0 _ _ upd_same⟩
    · obtain ⟨R, y3, xs, rfl, sm, fR, eR, tR⟩ := h
      have hp1 : n ^ (i + 1) ≤ 2000 := pow_le_of (by omega) hp
      refine ⟨.ref R, rfl, R, rfl, ⟨_, SqL.of eR⟩, fun D hD => out_list (K := K) (a := R) (xs := xs) (fun j H2 => Same H H2 ∧ H2 R = some (.lst xs) ∧ Tups H2 xs (rows n i) ∧ ∃ acc, H2 D = some (.lst acc) ∧ Tups H2 acc (((rows n i).take j).flatMap (ext n))) ?_ (fun j H2 _ h => SqL.of h.2.1) (fun j x H2 hx h => ?_) (fun H2 h => ?_)⟩
      · refine ⟨sm.trans (same_upd hD), same_upd hD _ _ eR, tR.keep (.of_same (same_upd hD)), [], upd_same, rfl, fun i x r h1 _ => by simp at h1⟩
      · obtain ⟨sm2, eR2, tR2, acc, eD, tD⟩ := h
        have hjl : j < xs.length := (List.getElem?_eq_some_iff.mp hx).1
        have hjr : j < (rows n i).length := by rw [← tR2.1]; exact hjl
        have gr : (rows n i)[j]? = some (rows n i)[j] := List.getElem?_eq_getElem hjr
        obtain ⟨a, rfl, ea⟩ := tR2.2 j x _ hx gr
        generalize er : (rows n i)[j] = r at gr ea
        have nDR : D ≠ R := fun z => by
          rw [z, eR] at hD
          cases hD
        have fD : H D = none := sm.free hD
        refine ⟨rfl, .int (n : Int), rfl, (n : Int), rfl, by omega, by omega, in_range (n := ((n : Int)).toNat) (fun t H3 => Same H H3 ∧ H3 R = some (.lst xs) ∧ Tups H3 xs (rows n i) ∧ H3 a = some (.tup (r.map V.int)) ∧ ∃ acc, H3 D = some (.lst acc) ∧ Tups H3 acc (((rows n i).take j).flatMap (ext n) ++ (List.range t).map fun (t : Nat) => r ++ [(t : Int)])) ?_ (fun t H3 ht h => ?_) (fun H3 h => ?_)⟩
        · exact ⟨sm2, eR2, tR2, ea, acc, eD, by simpa using tD⟩
        · obtain ⟨sm3, eR3, tR3, ea3, acc3, eD3, tD3⟩ := h
          have hlen : acc3.length ≤ 2000 := by
            rw [tD3.1, List.length_append, flat_len, List.length_map, List.length_range, List.length_take, Nat.min_eq_left (Nat.le_of_lt hjr)]
            have h2 : (j + 1) * n ≤ n ^ i * n := Nat.mul_le_mul_right n (by rw [← rows_len]; exact hjr)
            rw [Nat.add_mul] at h2
            have e2 : n ^ (i + 1) = n ^ i * n := Nat.pow_succ n i
            have h3 : t < n := by omega
            omega
          have fin : ∀ (y : Addr) (H4 : Hp), Same H3 H4 → H4 y = some (.tup ((r ++ [(t : Int)]).map V.int)) → ∃ acc, H4 D = some (.lst acc) ∧ acc.length < sizeLine ∧ (Same H (upd H4 D (.lst (acc ++ [.ref y]))) ∧ (upd H4 D (.lst (acc ++ [.ref y]))) R = some (.lst xs) ∧ Tups (upd H4 D (.lst (acc ++ [.ref y]))) xs (rows n i) ∧ (upd H4 D (.lst (acc ++ [.ref y]))) a = some (.tup (r.map V.int)) ∧ ∃ acc', (upd H4 D (.lst (acc ++ [.ref y]))) D = some (.lst acc') ∧ Tups (upd H4 D (.lst (acc ++ [.ref y]))) acc' (((rows n i).take j).flatMap (ext n) ++ (List.range (t + 1)).map fun (t : Nat) => r ++ [(t : Int)])) := fun y H4 s4 ey => by
            have e4 := s4 _ _ eD3
            have k4 := keep_lst (acc' := acc3 ++ [.ref y]) e4
            refine ⟨acc3, e4, small2000 (by omega), fun b o e => ?_, ?_, (tR3.keep (.of_same s4)).keep k4, k4 _ _ (s4 _ _ ea3), _, upd_same, ?_⟩
            · rw [upd_ne (ne_of_none e fD)]
              exact s4 _ _ (sm3 _ _ e)
            · rw [upd_ne nDR.symm]
              exact s4 _ _ eR3
            · rw [List.range_succ, List.map_append, ← List.append_assoc]
              exact ((tD3.keep (.of_same s4)).keep k4).push (k4 _ _ ey)
          refine ⟨rfl, .ref a, rfl, .int (0 + (t : Int)), rfl, (show 1 ≤ sizeLine by decide), fun z hz => ?_⟩
          rw [Int.zero_add]
          refine ⟨a, z, r.map V.int, [.int (t : Int)], rfl, rfl, SqT.of (same_upd hz _ _ ea3), SqT.of upd_same, ?_, fun e => ?_, (fun _ e => by cases e), fun _ _ y hy => ?_⟩
          · have hrm : r ∈ rows n i := List.mem_of_getElem? gr
            rw [List.length_map, (rows_mem hrm).1]
            exact Nat.le_of_lt (small2000 (show i + 1 ≤ 3000 by omega))
          · have er0 : r = [] := List.map_eq_nil_iff.mp e
            refine fin z _ (same_upd hz) ?_
            rw [er0]
            exact upd_same
          · refine fin y _ ((same_upd hz).trans (same_upd hy)) ?_
            rw [upd_same, List.map_append]
            rfl
        · obtain ⟨sm3, eR3, tR3, ea3, acc3, eD3, tD3⟩ := h
          refine ⟨sm3, eR3, tR3, acc3, eD3, ?_⟩
          rw [List.take_add_one, gr, List.flatMap_append]
          simpa [ext] using tD3
      · obtain ⟨sm2, eR2, tR2, acc, eD, tD⟩ := h
        rw [tR2.1, List.take_length] at tD
        exact ⟨D, _, acc, rfl, sm2, sm.free hD, eD, tD⟩
    · obtain ⟨R, y3, xs, rfl, sm, fR, eR, tR⟩ := h
      rw [Int.toNat_natCast] at tR
      exact ⟨.ref R, rfl, q R xs H1 sm fR eR tR⟩
end
theorem for_enumT {K : PySem.W.Frag} {a : Addr} {xs : List V} {g : TG} {tb : TS} {D : Ends} {σ : L2.St} {H : Hp} (Pv : Nat → L2.St → Hp → Prop) (h0 : Pv 0 σ H) (hl : ∀ i σ H, i ≤ xs.length → Pv i σ H → SqT K H a xs)
    (hs : ∀ (i : Nat) x σ H T, xs[i]? = some x → Pv i σ H → H T = none → g (.ref T) σ (upd H T (.tup [.int (i : Int), x])) fun σ2 H2 => tb { D with nx := Pv (i + 1), ct := Pv (i + 1), bk := D.nx } σ2 H2) (hd : ∀ σ H, Pv xs.length σ H → D.nx σ H) :
    ∃ W : Nat → Nat → L2.St → Hp → Prop, (∃ m, W 0 m σ H) ∧ ∀ i m σ H, W i m σ H →
      ((ItE K a).stop i H ∧ D.nx σ H) ∨ ((ItE K a).go i H ∧ ∃ N : L2.St → Hp → Prop, (∀ σ' H', N σ' H' → ∃ m', m' < m ∧ W (i + 1) m' σ' H') ∧ ∀ x H', (ItE K a).yld i H x H' → g x σ H' fun σ2 H2 => tb { D with nx := N, ct := N, bk := D.nx } σ2 H2) := by
  refine ⟨fun i m σ H => m = xs.length - i ∧ i ≤ xs.length ∧ Pv i σ H, ⟨xs.length, by omega, Nat.zero_le _, h0⟩, fun i m σ H hW => ?_⟩
  obtain ⟨rfl, hi, p⟩ := hW
  have q := hl i σ H hi p
  by_cases hlt : i < xs.length
  · refine .inr ⟨⟨xs, xs[i], q, by simp [hlt]⟩, Pv (i + 1), fun σ' H' p' => ⟨xs.length - (i + 1), by omega, rfl, hlt, p'⟩, fun x H' y => ?_⟩
    obtain ⟨T, z, rfl, hT, rfl, hz⟩ := y
    exact hs i z σ H T (hz xs q) p hT
  · obtain rfl : i = xs.length := by omega
    exact .inl ⟨⟨xs, q, Nat.le_refl _⟩, hd σ H p⟩
/-- xs are pairs of a tray's number and a tuple of things -/
def Pairs (H : Hp) (xs : List V) (fs : List (Int × List Int)) : Prop := xs.length = fs.length ∧ ∀ (i : Nat) (x : V) (p : Int × List Int), xs[i]? = some x → fs[i]? = some p → ∃ a b, x = .ref a ∧ H a = some (.tup [.int p.1, .ref b]) ∧ H b = some (.tup (p.2.map V.int))
theorem Pairs.keep {H H' : Hp} {xs : List V} {fs : List (Int × List Int)} (h : Pairs H xs fs) (k : KeepT H H') : Pairs H' xs fs := ⟨h.1, fun i x r h1 h2 => by
  obtain ⟨a, b, e, q1, q2⟩ := h.2 i x r h1 h2
  exact ⟨a, b, e, k _ _ q1, k _ _ q2⟩⟩
theorem Pairs.push {H : Hp} {xs : List V} {fs : List (Int × List Int)} {a b : Addr} {p : Int × List Int} (h : Pairs H xs fs) (e : H a = some (.tup [.int p.1, .ref b])) (e2 : H b = some (.tup (p.2.map V.int))) : Pairs H (xs ++ [.ref a]) (fs ++ [p]) := by
  refine ⟨by rw [List.length_append, List.length_append, h.1]; rfl, fun i x q h1 h2 => ?_⟩
  by_cases hi : i < xs.length
  · rw [List.getElem?_append_left hi] at h1
    rw [List.getElem?_append_left (by rw [← h.1]; exact hi)] at h2
    exact h.2 i x q h1 h2
  · have hlt : i < (xs ++ [V.ref a]).length := (List.getElem?_eq_some_iff.mp h1).1
    rw [List.length_append] at hlt
    have ei : i = xs.length := by
      have : ([V.ref a] : List V).length = 1 := rfl
      omega
    subst ei
    rw [List.getElem?_append_right (Nat.le_refl _), Nat.sub_self] at h1
    rw [h.1, List.getElem?_append_right (Nat.le_refl _), Nat.sub_self] at h2
    cases h1
    cases h2
    exact ⟨a, b, rfl, e, e2⟩
section
variable {P : Program} {w : World} {K : PySem.W.Frag} {mg : Str → Option Value} {base : Heap}
/-- what the written part says of an own error C without more -/
structure ErrTxt (K : PySem.W.Frag) (mg : Str → Option Value) (x : Str) (C : Addr) : Prop where
  g : mg x = some (.ref C)
  k : PySem.W.keepIn K (.ref C) = true
  b : PySem.W.subIn K (.ref C) (.type "BaseException") = some true
  t : PySem.W.typeIn K (.ref C) = some (.type "type")
def spAll (C : Addr) : Sp := fun vs H Q E => ∃ (t : Addr) (ws : List Int) (n : Nat), vs = [.ref t, .int (n : Int)] ∧ H t = some (.tup (ws.map V.int)) ∧ ws.length ≤ 60 ∧ (∀ x ∈ ws, 0 ≤ x ∧ x ≤ 12) ∧ n ≤ 1000 ∧
  (2000 < cnt (n : Int) ws → ∀ H', Same H H' → E (.ref C) none H') ∧ (¬ 2000 < cnt (n : Int) ws → ∀ R xs H', Same H H' → H R = none → H' R = some (.lst xs) → Pairs H' xs (fills n ws ws.length) → Q (.ref R) H')
theorem ok_all {f fT fM fR C : Addr} {fd fdT fdM fdR : FuncData} {tf : Tok} {k : Nat} (F : Fun K "all_fillings" "all_fillings" sAll f fd)
    (FT : Fun K "how_many_of_tray" "how_many_of_tray" sTray fT fdT) (bT : Binds K fdT ["wells", "number"] []) (gT : mg "how_many_of_tray" = some (.ref fT))
    (FM : Fun K "how_many" "how_many" sMany fM fdM) (bM : Binds K fdM ["crate", "number"] []) (gM : mg "how_many" = some (.ref fM))
    (FR : Fun K "rising_things" "rising_things" sRise fR fdR) (bR : Binds K fdR ["wells", "number"] []) (gR : mg "rising_things" = some (.ref fR))
    (gF : mg "MOST_FILLINGS" = some (.int 2000 tf)) (TC : ErrTxt K mg "TooMany" C) (xC : ∃ bm, PySem.W.excIn K C [.type "ValueError", .type "Exception", .type "BaseException", .type "object"] "ValueError.__new__" = true ∧ bm = true)
    (mx : mg "max" = none) (mr : mg "range" = none) (ms : mg "sum" = none) (men : mg "enumerate" = none) : FnOk P w K mg base (L2.CX P w) (k + 2 + 1) f fd ["crate", "number"] (spAll C) := by
  have GM : FnOk P w K mg base CX0 2 fM fdM ["crate", "number"] (spMany K) := ok_many FM FT bT gT mx mr ms
  have GR : FnOk P w K mg base CX0 1 fR fdR ["wells", "number"] spRise := ok_rise FR mr
  obtain ⟨_, xP, _⟩ := xC
  refine F.okX scAll (fun vs H Q E h => ?_) (fun cdv A outer s H vs Q E hr h => ?_)
  · obtain ⟨t, ws, n, rfl, _⟩ := h
    rfl
  · obtain ⟨t, ws, n, rfl, ht, hl, hw, hn, qE, q⟩ := h
    have hr1 : Room 1 _ := hr.mono (by omega)
    have hr2 : Room 2 _ := hr.mono (by omega)
    refine ⟨_, pss_cons (ps_if (pt_cmpR op_gt (pe_call GM hr2 (by rfl) gM FM.kp bM .nil pass0 (pa_cons (pv 0) (pa_cons (pv 1) pa_nil))) (pe_glob (v := .int 2000) rfl gF ⟨_, rfl⟩) (nomark _))
        (pss_one (ps_raise rfl (takes_of rfl rfl rfl rfl) (pmk_own PySem.F.excBase_ValueError xP TC.g TC.k (raises_own TC.b TC.t) rfl))) pss_nil)
      (PSs.nox (pss_cons (ps_set (i := 2) scAll.nd rfl (.inl rfl) (pe_lst pa_nil))
      (pss_cons (ps_for PassesOwn.never rfl (pi_enumT rfl men (pa_cons (pv 0) pa_nil)) (pg_tup rfl (pgs_cons (pg_name (i := 3) scAll.nd rfl (.inl rfl)) (pgs_cons (pg_name (i := 4) scAll.nd rfl (.inl rfl)) pgs_nil)))
        (pss_one (ps_for PassesOwn.never rfl (pi_list (pe_call GR hr1 (by rfl) gR FR.kp bR .nil pass0 (pa_cons (pv 4) (pa_cons (pv 1) pa_nil)))) (pg_name (i := 5) scAll.nd rfl (.inl rfl))
          (pss_one (ps_expr (pe_bm PySem.F.plainAttrs_list PySem.F.slot_list_append PySem.F.type_list_append mt_append (pv 2) (pa_cons (pe_tup (pa_cons (pv 3) (pa_cons (pv 5) pa_nil))) pa_nil)))))))
      (pss_one (ps_ret (pv 2)))))), ?_⟩
    have n0 : (0 : Int) ≤ (n : Int) := by omega
    refine ⟨.ref t, rfl, .int (n : Int), rfl, t, ws, (n : Int), rfl, SqT.of ht, hl, hw, n0, by omega, fun H1 s1 => ?_⟩
    refine ⟨_, _, rfl, rfl, _, rfl, ite2 (fun c0 => ?_) (fun c0 => ?_)⟩
    · exact qE (of_decide_eq_true c0) H1 s1
    · have c1 : ¬ 2000 < cnt (n : Int) ws := fun z => c0 (decide_eq_true z)
      have ht1 := s1 _ _ ht
      refine ⟨Nat.zero_le _, fun R hR => ?_⟩
      have nRt : t ≠ R := ne_of_none ht1 hR
      refine ⟨.ref t, rfl, t, ws.map V.int, rfl, SqT.of (same_upd hR _ _ ht1), for_enumT (K := K) (xs := ws.map V.int) (fun i σ H2 => ∃ y3 y4 y5 xs, σ = [some (.ref t), some (.int (n : Int)), some (.ref R), y3, y4, y5] ∧ Same H H2 ∧ H2 R = some (.lst xs) ∧ Pairs H2 xs (fills n ws i)) ?_ (fun i σ H2 _ h => ?_) (fun i x σ H2 T hx h hT => ?_) (fun σ H2 h => ?_)⟩
      · exact ⟨none, none, none, [], rfl, s1.trans (same_upd hR), upd_same, rfl, fun i x p h1 _ => by simp at h1⟩
      · obtain ⟨y3, y4, y5, xs, rfl, s2, eR, pR⟩ := h
        exact SqT.of (s2 _ _ ht)
      · obtain ⟨y3, y4, y5, xs, rfl, s2, eR, pR⟩ := h
        obtain ⟨wl, hwl, rfl⟩ := map_get hx
        have hil : i < ws.length := (List.getElem?_eq_some_iff.mp hwl).1
        have hb := hw wl (List.mem_of_getElem? hwl)
        have hpow : n ^ wl.toNat ≤ 2000 := by
          have z := cnt_term n0 hwl
          have z2 : ((n ^ wl.toNat : Nat) : Int) ≤ 2000 := by
            rw [Int.natCast_pow]
            omega
          omega
        have ewl : wl = ((wl.toNat : Nat) : Int) := by omega
        have s3 : Same H2 (upd H2 T (.tup [.int (i : Int), .int wl])) := same_upd hT
        refine ⟨T, _, rfl, SqT.of upd_same, rfl, .int (i : Int), [.int wl], rfl, .int wl, [], rfl, rfl, ?_⟩
        refine ⟨.int wl, rfl, .int (n : Int), rfl, wl.toNat, n, by rw [← ewl]; rfl, by omega, hn, hpow, fun L ys H3 s4 fL eL tL => ?_⟩
        have fR : H R = none := s1.free hR
        have hRows : one n ws i = (rows n wl.toNat).map fun r => ((i : Int), r) := by
          unfold one
          rw [List.getD_eq_getElem?_getD, hwl]
          rfl
        have hlen : ((fills n ws i).length : Int) + ((n ^ wl.toNat : Nat) : Int) ≤ 2000 := by
          have z := fills_len (n := n) (ws := ws) (i := i + 1) hil
          rw [fills_succ, List.length_append, hRows, List.length_map, rows_len] at z
          have z2 := cnt_take_le n0 ws (i + 1)
          omega
        have nLR : L ≠ R := fun z => by
          rw [z, s3 _ _ eR] at fL
          cases fL
        refine ⟨L, rfl, ⟨_, SqL.of eL⟩, for_list (K := K) (xs := ys) (fun j σ H4 => ∃ y5 xs, σ = [some (.ref t), some (.int (n : Int)), some (.ref R), some (.int (i : Int)), some (.int wl), y5] ∧ Same H H4 ∧ H4 L = some (.lst ys) ∧ Tups H4 ys (rows n wl.toNat) ∧ H4 R = some (.lst xs) ∧ Pairs H4 xs (fills n ws i ++ ((rows n wl.toNat).take j).map fun r => ((i : Int), r))) ?_ (fun j σ H4 _ h => ?_) (fun j y σ H4 hy h => ?_) (fun σ H4 h => ?_)⟩
        · refine ⟨y5, xs, rfl, (s2.trans s3).trans s4, eL, tL, s4 _ _ (s3 _ _ eR), ?_⟩
          simpa using (pR.keep (.of_same s3)).keep (.of_same s4)
        · obtain ⟨z5, xs4, rfl, s5, eL4, tL4, eR4, pR4⟩ := h
          exact SqL.of eL4
        · obtain ⟨z5, xs4, rfl, s5, eL4, tL4, eR4, pR4⟩ := h
          have hjl : j < (rows n wl.toNat).length := by
            rw [← tL4.1]
            exact (List.getElem?_eq_some_iff.mp hy).1
          have gr : (rows n wl.toNat)[j]? = some (rows n wl.toNat)[j] := List.getElem?_eq_getElem hjl
          obtain ⟨b, rfl, eb⟩ := tL4.2 j y _ hy gr
          refine ⟨.ref R, rfl, .inl ⟨rfl, _, SqL.of eR4⟩, .int (i : Int), rfl, .ref b, rfl, (show 2 ≤ sizeLine by decide), fun u hu => ?_⟩
          have eR5 := same_upd (o := .tup [.int (i : Int), .ref b]) hu _ _ eR4
          refine ⟨R, xs4, .ref u, rfl, rfl, eR5, ?_, ?_⟩
          · rw [pR4.1, List.length_append, List.length_map, List.length_take, Nat.min_eq_left (Nat.le_of_lt hjl)]
            rw [rows_len] at hjl
            exact small2000 (by omega)
          · have k5 := keep_lst (acc' := xs4 ++ [.ref u]) eR5
            have k6 : KeepT H4 (upd H4 u (.tup [.int (i : Int), .ref b])) := .of_same (same_upd hu)
            refine ⟨_, _, rfl, fun c o e => ?_, ?_, (tL4.keep k6).keep k5, upd_same, ?_⟩
            · rw [upd_ne (ne_of_none e fR)]
              exact same_upd hu _ _ (s5 _ _ e)
            · rw [upd_ne nLR]
              exact same_upd hu _ _ eL4
            · rw [List.take_add_one, gr, List.map_append, ← List.append_assoc]
              exact Pairs.push (p := ((i : Int), (rows n wl.toNat)[j])) ((pR4.keep k6).keep k5) (k5 _ _ upd_same) (k5 _ _ (k6 _ _ eb))
        · obtain ⟨z5, xs4, rfl, s5, eL4, tL4, eR4, pR4⟩ := h
          refine ⟨_, _, _, xs4, rfl, s5, eR4, ?_⟩
          rw [tL4.1, List.take_length, ← hRows, ← fills_succ] at pR4
          exact pR4
      · obtain ⟨y3, y4, y5, xs, rfl, s2, eR, pR⟩ := h
        rw [List.length_map] at pR
        exact ⟨.ref R, rfl, q c1 R xs H2 s2 (s1.free hR) eR pR⟩
end
theorem Kp.get {p l b : Addr} {o : HO} {H H' : Hp} (k : Kp p l H H') (n : b ≠ p ∧ b ≠ l) (e : H b = some o) : H' b = some o := k b o n.1 n.2 e
theorem rep_flat (i : Int) : ∀ m : Nat, (List.replicate m [V.int i]).flatten = (List.replicate m i).map V.int
  | 0 => rfl
  | m + 1 => by
    have ih := rep_flat i m
    rw [List.replicate_succ, List.flatten_cons, ih, List.replicate_succ]
    rfl
theorem depth_pair (p : Int × List Int) : (dPair p).depth ≤ 64 := by
  have h := depth_ints p.2
  unfold dPair
  simp only [PyData.depth, PyData.depthAll]
  omega
theorem dp_pair {K : PySem.W.Frag} {H : Hp} {a b : Addr} {p : Int × List Int} (e : H a = some (.tup [.int p.1, .ref b])) (e2 : H b = some (.tup (p.2.map V.int))) : Dp K H (.ref a) (dPair p) :=
  .tup (SqT.of e) (.cons (.int _) (.cons (.tup (SqT.of e2) (dpAll_int p.2)) .nil))
section
variable {P : Program} {w : World} {K : PySem.W.Frag} {mg : Str → Option Value} {base : Heap}
/-! ### _law_whole of a number, _law_many -/
def spWhole : Sp := fun vs H Q _ => ∃ i, vs = [.int i] ∧ Q (.bl true) H
theorem ok_whole {f : Addr} {fd : FuncData} {k : Nat} (F : Fun K "_law_whole" "_law_whole" sWhole f fd) (mi : mg "isinstance" = none) (mint : mg "int" = none) (mbool : mg "bool" = none) : FnOk P w K mg base CX0 (k + 1) f fd ["thing"] spWhole := by
  refine F.ok scWhole (fun vs H Q E h => ?_) (fun cdv A outer s H vs Q E hr h => ?_)
  · obtain ⟨x, rfl, _⟩ := h
    rfl
  · obtain ⟨i, rfl, q⟩ := h
    refine ⟨_, pss_one (ps_ret (pe_and (pe_callB call_isi (by rfl) mi (by decide +kernel) (pa_cons (pv 0) (pa_cons (pe_bltn (v := .ty "int") (by rfl) mint (by decide +kernel) rfl) pa_nil)))
      (pe_one (pe_not (pe_callB call_isi (by rfl) mi (by decide +kernel) (pa_cons (pv 0) (pa_cons (pe_bltn (v := .ty "bool") (by rfl) mbool (by decide +kernel) rfl) pa_nil))))))), ?_⟩
    refine ⟨.int i, rfl, _, _, _, _, true, rfl, .ty "int", .base (.int i), kit_ty (by decide +kernel), true, rfl, ?_⟩
    refine iteT ?_
    exact ⟨.int i, rfl, _, _, _, _, false, rfl, .ty "bool", .base (.int i), kit_ty (by decide +kernel), false, rfl, q⟩
def spCount : Sp := fun vs H Q _ => ∃ (t : Addr) (ws : List Int) (n : Int), vs = [.ref t, .int n] ∧ H t = some (.tup (ws.map V.int)) ∧ (∀ x ∈ ws, 0 ≤ x ∧ x ≤ 12) ∧ 0 ≤ n ∧ n ≤ 1000 ∧ Q (.int (cnt n ws)) H
theorem ok_count {f : Addr} {fd : FuncData} {k : Nat} (F : Fun K "_law_many" "_law_many" sCount f fd) (mr : mg "range" = none) : FnOk P w K mg base CX0 (k + 1) f fd ["crate", "number"] spCount := by
  refine F.ok scCount (fun vs H Q E h => ?_) (fun cdv A outer s H vs Q E hr h => ?_)
  · obtain ⟨t, ws, n, rfl, _⟩ := h
    rfl
  · obtain ⟨t, ws, n, rfl, ht, hw, n0, n1, q⟩ := h
    refine ⟨_, pss_cons (ps_set (i := 2) scCount.nd rfl (.inl rfl) pe_int)
      (pss_cons (ps_for PassesOwn.never rfl (pi_tup (pv 0)) (pg_name (i := 3) scCount.nd rfl (.inl rfl))
        (pss_cons (ps_set (i := 4) scCount.nd rfl (.inl rfl) pe_int)
        (pss_cons (ps_for PassesOwn.never rfl (pi_range1 rfl mr (pa_cons (pv 3) pa_nil)) (pg_name (i := 5) scCount.nd rfl (.inl rfl))
          (pss_one (ps_set (i := 4) scCount.nd rfl (.inl rfl) (pe_op op_mul (pv 4) (pv 1)))))
        (pss_one (ps_set (i := 2) scCount.nd rfl (.inl rfl) (pe_op op_add (pv 2) (pv 4)))))))
      (pss_one (ps_ret (pv 2)))), ?_⟩
    refine ⟨.ref t, rfl, t, rfl, ⟨_, SqT.of ht⟩, for_tup (K := K) (xs := ws.map V.int) (fun i σ H7 => ∃ s3 s4 s5, σ = [some (.ref t), some (.int n), some (.int (cnt n (ws.take i))), s3, s4, s5] ∧ H7 = H)
      ⟨_, _, _, rfl, rfl⟩ (fun i σ H7 _ h => ?_) (fun j x σ H7 hx h => ?_) (fun σ H7 h => ?_)⟩
    · obtain ⟨s3, s4, s5, rfl, rfl⟩ := h
      exact SqT.of ht
    · obtain ⟨s3, s4, s5, rfl, rfl⟩ := h
      obtain ⟨y, hy, rfl⟩ := map_get hx
      have hb := hw y (List.mem_of_getElem? hy)
      refine ⟨.int y, rfl, y, rfl, by omega, by omega, for_range (lo := 0) (n := y.toNat) (fun i σ H8 => ∃ s5, σ = [some (.ref t), some (.int n), some (.int (cnt n (ws.take j))), some (.int y), some (.int (n ^ i)), s5] ∧ H8 = H7)
        ⟨_, by rw [Int.pow_zero]; rfl, rfl⟩ (fun i σ H8 hi h => ?_) (fun σ H8 h => ?_)⟩
      · obtain ⟨s5, rfl, rfl⟩ := h
        refine ⟨_, rfl, _, rfl, n ^ i, n, rfl, rfl, .inr ⟨by omega, by omega⟩, ?_⟩
        exact ⟨_, by rw [Int.pow_succ]; rfl, rfl⟩
      · obtain ⟨s5, rfl, rfl⟩ := h
        refine ⟨_, rfl, _, rfl, _, _, rfl, rfl, ?_⟩
        exact ⟨_, _, _, by rw [cnt_take hy]; rfl, rfl⟩
    · obtain ⟨s3, s4, s5, rfl, rfl⟩ := h
      rw [List.length_map, List.take_length]
      exact ⟨_, rfl, q⟩
/-! ### _law_drawn -/
def spDrawn : Sp := fun vs H Q _ => ∃ (p l : Addr), vs = [.ref p] ∧ Sc p l H ∧ ∀ (t u : Addr) (ws : List Int) (n : Nat) H', ws.length ≤ 60 → (∀ x ∈ ws, 0 ≤ x ∧ x ≤ 12) → n ≤ 1000 → H t = none → H' t = some (.tup (ws.map V.int)) → H' u = some (.tup [.ref t, .int (n : Int)]) → Sc p l H' → Kp p l H H' → Q (.ref u) H'
theorem ok_drawn {f fN : Addr} {fd fdN : FuncData} {k : Nat} (F : Fun K "_law_drawn" "_law_drawn" sDrawn f fd) (FN : Fun K "_law_next" "_law_next" sNext fN fdN) (bN : Binds K fdN ["source", "many"] []) (gN : mg "_law_next" = some (.ref fN)) (mabs : mg "abs" = none) (mt : mg "tuple" = none) (mr : mg "range" = none) : FnOk P w K mg base CX0 (k + 1 + 1) f fd ["source"] spDrawn := by
  have GN : FnOk P w K mg base CX0 (k + 1) fN fdN ["source", "many"] spNext := ok_next FN mabs
  refine F.ok scDrawn (fun vs H Q E h => ?_) (fun cdv A outer s H vs Q E hr h => ?_)
  · obtain ⟨p, l, rfl, _⟩ := h
    rfl
  · obtain ⟨p, l, rfl, hS, q⟩ := h
    refine ⟨_, pss_cons (ps_set (i := 1) scDrawn.nd rfl (.inl rfl) (pe_call GN hr (by rfl) gN FN.kp bN .nil pass0 (pa_cons (pv 0) (pa_cons pe_int pa_nil))))
      (pss_cons (ps_set (i := 2) scDrawn.nd rfl (.inr rfl) (pe_call GN hr (by rfl) gN FN.kp bN .nil pass0 (pa_cons (pv 0) (pa_cons pe_int pa_nil))))
      (pss_cons (ps_set (i := 3) scDrawn.nd rfl (.inl rfl) (pe_call GN hr (by rfl) gN FN.kp bN .nil pass0 (pa_cons (pv 0) (pa_cons pe_int pa_nil))))
      (pss_cons (ps_set (i := 4) scDrawn.nd rfl (.inl rfl) (pe_call GN hr (by rfl) gN FN.kp bN .nil pass0 (pa_cons (pv 0) (pa_cons pe_int pa_nil))))
      (C8.pss_cut (ps_if (pt_cmpR op_eq (pv 4) pe_int (nomark _)) (pss_one (ps_set (i := 1) scDrawn.nd rfl (.inl rfl) (pe_call GN hr (by rfl) gN FN.kp bN .nil pass0 (pa_cons (pv 0) (pa_cons pe_int pa_nil))))) pss_nil)
      (C8.pss_cut (ps_if (pt_cmpR op_eq (pv 4) pe_int (nomark _)) (pss_one (ps_set (i := 2) scDrawn.nd rfl (.inr rfl) (pe_call GN hr (by rfl) gN FN.kp bN .nil pass0 (pa_cons (pv 0) (pa_cons pe_int pa_nil))))) pss_nil)
      (C8.pss_cut (ps_if (pt_cmpR op_eq (pv 4) pe_int (nomark _)) (pss_one (ps_set (i := 3) scDrawn.nd rfl (.inl rfl) (pe_call GN hr (by rfl) gN FN.kp bN .nil pass0 (pa_cons (pv 0) (pa_cons pe_int pa_nil))))) pss_nil)
      (pss_cons (ps_if (pt_cmpR op_eq (pv 4) pe_int (nomark _))
          (pss_cons (ps_set (i := 5) scDrawn.nd rfl (.inl rfl) (pe_op op_add pe_int (pe_call GN hr (by rfl) gN FN.kp bN .nil pass0 (pa_cons (pv 0) (pa_cons pe_int pa_nil)))))
          (pss_cons (ps_set (i := 6) scDrawn.nd rfl (.inl rfl) (pe_op op_add (pe_op op_mod pe_int (pv 5)) (pe_call GN hr (by rfl) gN FN.kp bN .nil pass0 (pa_cons (pv 0) (pa_cons pe_int pa_nil)))))
          (pss_one (ps_ret (pe_tup (pa_cons (pe_op op_catA (pe_op op_repA (pe_tup (pa_cons pe_int pa_nil)) (pv 5)) (pe_op op_repA (pe_tup (pa_cons pe_int pa_nil)) (pv 6))) (pa_cons (pe_op op_fdiv pe_int (pv 5)) pa_nil)))))))
          pss_nil)
      (pss_one (ps_ret (pe_tup (pa_cons (pe_callTy call_tuple_of (by rfl) mt (by decide +kernel) (pa_cons (pe_lc (own := [("k", 7)]) (g := gName 7) (tt := tYes) rfl scDrawn.nd (pi_range1 rfl mr (pa_cons (pv 1) pa_nil)) (blkOk_by (N := ["source", "size", "most", "number", "way", "many", "idle_ones", "k"]) (sc := defScope sDrawn) (by decide +kernel)) (fun _ _ _ _ _ => pg_name (i := 7) scDrawn.nd rfl (Or.inl rfl)) (fun _ _ _ _ _ => pts_nil)
        (fun _ _ _ _ _ => pe_call GN hr (by rfl) gN FN.kp bN .nil pass0 (pa_cons (pv 0) (pa_cons (pe_op op_add (pv 2) pe_int) pa_nil)))) pa_nil)) (pa_cons (pv 3) pa_nil)))))))))))), ?_⟩
    refine ⟨.ref p, rfl, p, l, 4, rfl, hS, by decide, lg (by decide) (by decide), fun r1 H1 a1 b1 S1 k1 => ?_⟩
    refine ⟨.ref p, rfl, p, l, 4, rfl, S1, by decide, lg (by decide) (by decide), fun r2 H2 a2 b2 S2 k2 => ?_⟩
    refine ⟨.ref p, rfl, p, l, 5, rfl, S2, by decide, lg (by decide) (by decide), fun r3 H3 a3 b3 S3 k3 => ?_⟩
    refine ⟨.ref p, rfl, p, l, 16, rfl, S3, by decide, lg (by decide) (by decide), fun wy H4 a4 b4 S4 k4 => ?_⟩
    have kk := ((k1.trans k2).trans k3).trans k4
    refine ⟨fun σ' H' => ∃ sz, σ' = [some (.ref p), some (.int sz), some (.int r2), some (.int r3), some (.int wy), none, none, none] ∧ 0 ≤ sz ∧ sz ≤ 60 ∧ Sc p l H' ∧ Kp p l H H', ?_, fun σ' H' hM => ?_⟩
    · refine ⟨.int wy, rfl, rfl, _, rfl, ite2 (fun _ => ?_) (fun _ => ?_)⟩
      · refine ⟨.ref p, rfl, p, l, 61, rfl, S4, by decide, lg (by decide) (by decide), fun r5 H5 a5 b5 S5 k5 => ?_⟩
        exact ⟨r5, rfl, a5, by omega, S5, kk.trans k5⟩
      · exact ⟨r1, rfl, a1, by omega, S4, kk⟩
    obtain ⟨sz, rfl, z0, z1, S5, k5⟩ := hM
    refine ⟨fun σ' H' => ∃ mo, σ' = [some (.ref p), some (.int sz), some (.int mo), some (.int r3), some (.int wy), none, none, none] ∧ 0 ≤ mo ∧ mo ≤ 12 ∧ Sc p l H' ∧ Kp p l H H', ?_, fun σ' H' hM => ?_⟩
    · refine ⟨.int wy, rfl, rfl, _, rfl, ite2 (fun _ => ?_) (fun _ => ?_)⟩
      · refine ⟨.ref p, rfl, p, l, 13, rfl, S5, by decide, lg (by decide) (by decide), fun r6 H6 a6 b6 S6 k6 => ?_⟩
        exact ⟨r6, rfl, a6, by omega, S6, k5.trans k6⟩
      · exact ⟨r2, rfl, a2, by omega, S5, k5⟩
    obtain ⟨mo, rfl, m0, m1, S6, k6⟩ := hM
    refine ⟨fun σ' H' => ∃ nu, σ' = [some (.ref p), some (.int sz), some (.int mo), some (.int nu), some (.int wy), none, none, none] ∧ 0 ≤ nu ∧ nu ≤ 1000 ∧ Sc p l H' ∧ Kp p l H H', ?_, fun σ' H' hM => ?_⟩
    · refine ⟨.int wy, rfl, rfl, _, rfl, ite2 (fun _ => ?_) (fun _ => ?_)⟩
      · refine ⟨.ref p, rfl, p, l, 1001, rfl, S6, by decide, lg (by decide) (by decide), fun r7 H7 a7 b7 S7 k7 => ?_⟩
        exact ⟨r7, rfl, a7, by omega, S7, k6.trans k7⟩
      · exact ⟨r3, rfl, a3, by omega, S6, k6⟩
    obtain ⟨nu, rfl, n0, n1, S7, k7⟩ := hM
    refine ⟨.int wy, rfl, rfl, _, rfl, ite2 (fun _ => ?_) (fun _ => ?_)⟩
    · -- trays of one well and of none
      refine ⟨.ref p, rfl, p, l, 28, rfl, S7, by decide, lg (by decide) (by decide), fun r8 H8 a8 b8 S8 k8 => ?_⟩
      refine ⟨2, r8, rfl, rfl, ?_⟩
      have m2 : 2 ≤ 2 + r8 := by omega
      have m29 : 2 + r8 ≤ 29 := by omega
      dsimp only
      generalize 2 + r8 = m at m2 m29 ⊢
      refine ⟨.int m, rfl, 2000, m, rfl, rfl, (show 0 < m by omega), .ref p, rfl, p, l, 2, rfl, S8, by decide, lg (by decide) (by decide), fun r9 H9 a9 b9 S9 k9 => ?_⟩
      refine ⟨2000 % m, r9, rfl, rfl, ?_⟩
      have d0 : 0 ≤ 2000 % m + r9 := by
        have := Int.emod_nonneg 2000 (show m ≠ 0 by omega)
        omega
      have d29 : 2000 % m + r9 ≤ 29 := by
        have := Int.emod_lt_of_pos 2000 (show 0 < m by omega)
        omega
      dsimp only
      generalize 2000 % m + r9 = dl at d0 d29 ⊢
      have k9' := (k7.trans k8).trans k9
      have fm0 : 0 ≤ 2000 / m := Int.ediv_nonneg (by decide) (by omega)
      have fm1 : 2000 / m ≤ 1000 := by
        have := Int.ediv_mul_le 2000 (show m ≠ 0 by omega)
        have h2 : 2000 / m * 2 ≤ 2000 / m * m := Int.mul_le_mul_of_nonneg_left m2 fm0
        omega
      have en : 2000 / m = (((2000 / m).toNat : Nat) : Int) := by omega
      refine ⟨(show 1 ≤ sizeLine by decide), fun c1 h1 => ?_⟩
      have T1 := S9.upd (o := .tup [.int 1]) h1
      refine ⟨.int m, rfl, c1, m, [.int 1], rfl, rfl, SqT.of upd_same, (fun z => by cases z), by omega, by omega, (show 1 ≤ 1000 by decide), fun z => absurd z (by omega), fun _ c2 h2 => ?_⟩
      have T2 := T1.upd (o := .tup (List.replicate m.toNat [.int 1]).flatten) h2
      refine ⟨(show 1 ≤ sizeLine by decide), fun c3 h3 => ?_⟩
      have T3 := T2.upd (o := .tup [.int 0]) h3
      have g2 := same_upd (o := .tup [.int 0]) h3 c2 _ upd_same
      have kc := ((k9'.upd (o := .tup [.int 1]) h1).upd (o := .tup (List.replicate m.toNat [.int 1]).flatten) h2).upd (o := .tup [.int 0]) h3
      have hlen1 : (List.replicate m.toNat [V.int 1]).flatten ≠ [] := by
        rw [rep_flat]
        intro z
        have := congrArg List.length z
        rw [List.length_map, List.length_replicate] at this
        have : m.toNat = 0 := this
        omega
      have fin : ∀ (c4 : Addr) (ys : List Int) (H10 : Hp), Sc p l H10 → Kp p l H H10 → H10 c2 = some (.tup (List.replicate m.toNat [V.int 1]).flatten) → H10 c4 = some (.tup (ys.map V.int)) → ys = List.replicate dl.toNat 0 → (rCatA (cxOf CX0 P w K mg base ["source", "size", "most", "number", "way", "many", "idle_ones", "k"] "_law_drawn" (defScope sDrawn) f cdv A outer s H E).nox.K) (.ref c2) (.ref c4) H10 fun x H11 => tCons (tOp (rI CDiv fun i j => .int (i / j)) (tC (.int 2000)) (tVar 5)) tNil [some (.ref p), some (.int sz), some (.int mo), some (.int nu), some (.int wy), some (.int m), some (.int dl), none] H11 fun xs H12 => (fun xs H1 => xs.length ≤ sizeLine ∧ ∀ q, H1 q = none → Q (.ref q) (upd H1 q (.tup xs))) (x :: xs) H12 := fun c4 ys H10 S10 k10 e2 e4 ey => by
        subst ey
        have e2' := e2
        rw [rep_flat] at e2'
        refine ⟨c2, c4, _, _, rfl, rfl, SqT.of e2, SqT.of e4, ?_, fun z => absurd z hlen1, fun _ z => ?_, fun _ _ c5 h5 => ?_⟩
        · rw [rep_flat, List.length_map, List.length_map, List.length_replicate, List.length_replicate]
          exact Nat.le_of_lt (small2000 (by omega))
        · refine ⟨.int m, rfl, 2000, m, rfl, rfl, ⟨by omega, by omega⟩, (show 2 ≤ sizeLine by decide), fun u hu => ?_⟩
          show Q (.ref u) (upd H10 u (.tup [.ref c2, .int (2000 / m)]))
          rw [en]
          refine q c2 u (List.replicate m.toNat 1) (2000 / m).toNat _ ?_ (fun x hx => ?_) (by omega) (k9'.upd (o := .tup [.int 1]) h1 |>.free T1 h2) (same_upd hu _ _ e2') upd_same (S10.upd hu) (k10.upd hu)
          · rw [List.length_replicate]
            omega
          · rw [List.eq_of_mem_replicate hx]
            exact ⟨by decide, by decide⟩
        · refine ⟨.int m, rfl, 2000, m, rfl, rfl, ⟨by omega, by omega⟩, (show 2 ≤ sizeLine by decide), fun u hu => ?_⟩
          show Q (.ref u) (upd (upd H10 c5 _) u (.tup [.ref c5, .int (2000 / m)]))
          rw [en]
          refine q c5 u (List.replicate m.toNat 1 ++ List.replicate dl.toNat 0) (2000 / m).toNat _ ?_ (fun x hx => ?_) (by omega) (k10.free S10 h5) (same_upd hu _ _ ?_) upd_same ((S10.upd h5).upd hu) ((k10.upd h5).upd hu)
          · rw [List.length_append, List.length_replicate, List.length_replicate]
            omega
          · rcases List.mem_append.mp hx with hx | hx
            · rw [List.eq_of_mem_replicate hx]
              exact ⟨by decide, by decide⟩
            · rw [List.eq_of_mem_replicate hx]
              exact ⟨by decide, by decide⟩
          · rw [upd_same, rep_flat, List.map_append]
      refine ⟨.int dl, rfl, c3, dl, [.int 0], rfl, rfl, SqT.of upd_same, (fun z => by cases z), d0, by omega, (show 1 ≤ 1000 by decide), fun z => ?_, fun _ c4 h4 => ?_⟩
      · refine fin c3 [0] _ T3 kc g2 upd_same ?_
        rw [z]
        rfl
      · exact fin c4 (List.replicate dl.toNat 0) _ (T3.upd h4) (kc.upd h4) (same_upd h4 _ _ g2) (by rw [upd_same, rep_flat]) rfl
    · -- drawn trays
      refine ⟨.int sz, rfl, sz, rfl, by omega, by omega, fun D hD => lc_range (lo := 0) (n := sz.toNat) (fun i H8 => ∃ ws : List Int, ws.length = i ∧ (∀ x ∈ ws, 0 ≤ x ∧ x ≤ 12) ∧ H8 D = some (.lst (ws.map V.int)) ∧ Sc p l H8 ∧ Kp p l H H8) ?_ (fun i H8 hi h8 => ?_) (fun H8 h8 => ?_)⟩
      · exact ⟨[], rfl, (fun x hx => by cases hx), upd_same, S7.upd hD, k7.upd hD⟩
      · obtain ⟨ws, hw, ha, e8, S8, k8⟩ := h8
        refine ⟨rfl, .ref p, rfl, .int mo, rfl, mo, 1, rfl, rfl, p, l, mo + 1, rfl, S8, by omega, lg (by omega) (by omega), fun r9 H9 a9 b9 S9 k9 => ?_⟩
        have nD := S7.ne hD
        refine ⟨_, k9.get nD e8, ?_, ws ++ [r9], ?_, ?_, ?_, ?_, ?_⟩
        · rw [List.length_map]
          exact small2000 (by omega)
        · rw [List.length_append, hw]
          rfl
        · intro x hx
          rcases List.mem_append.mp hx with hx | hx
          · exact ha x hx
          · rw [List.mem_singleton.mp hx]
            exact ⟨a9, by omega⟩
        · rw [upd_same, List.map_append]
          rfl
        · obtain ⟨n, ns, x, y, f1, f2, rr⟩ := S9
          refine ⟨n, ns, x, y, ?_, ?_, rr⟩
          · rw [upd_ne nD.1.symm]
            exact f1
          · rw [upd_ne nD.2.symm]
            exact f2
        · intro b o h1 h2 e
          have nb : b ≠ D := fun z => by
            rw [z, k7.free S7 hD] at e
            cases e
          rw [upd_ne nb]
          exact k9 b o h1 h2 (k8 b o h1 h2 e)
      · obtain ⟨ws, hw, ha, e8, S8, k8⟩ := h8
        refine ⟨D, _, rfl, .inl ⟨SqL.of e8, fun t ht => ?_⟩⟩
        refine ⟨.int nu, rfl, (show 2 ≤ sizeLine by decide), fun u hu => ?_⟩
        rw [show nu = ((nu.toNat : Nat) : Int) by omega]
        exact q t u ws nu.toNat _ (by omega) ha (by omega) (k8.free S8 ht) (same_upd hu _ _ upd_same) upd_same ((S8.upd ht).upd hu) ((k8.upd ht).upd hu)
end
theorem next_lt {l : List (Int × List Int)} (h : l.Pairwise LtP) {j : Nat} {p q : Int × List Int} (hp : l[j]? = some p) (hq : l[j + 1]? = some q) : LtP p q := by
  obtain ⟨h1, rfl⟩ := List.getElem?_eq_some_iff.mp hp
  obtain ⟨h2, rfl⟩ := List.getElem?_eq_some_iff.mp hq
  exact List.pairwise_iff_getElem.mp h j (j + 1) h1 h2 (Nat.lt_succ_self j)
theorem at0 {x y : V} : atI [x, y] 0 = some x := atI_nat (j := 0) rfl
theorem at1 {x y : V} : atI [x, y] 1 = some y := atI_nat (j := 1) rfl
section
variable {P : Program} {w : World} {K : PySem.W.Frag} {mg : Str → Option Value} {base : Heap}
def spRight : Sp := fun vs H Q _ => ∃ (t R : Addr) (ws : List Int) (n : Nat) (m : Int) (xs : List V), vs = [.ref t, .int (n : Int), .int m, .ref R] ∧ H t = some (.tup (ws.map V.int)) ∧ (∀ x ∈ ws, 0 ≤ x ∧ x ≤ 12) ∧ H R = some (.lst xs) ∧ Pairs H xs (fills n ws ws.length) ∧ m = ((fills n ws ws.length).length : Int) ∧ ∀ H', Same H H' → Q (.bl true) H'
theorem ok_right {f fW : Addr} {fd fdW : FuncData} {k : Nat} (F : Fun K "_law_right" "_law_right" sRight f fd) (FW : Fun K "_law_whole" "_law_whole" sWhole fW fdW) (bW : Binds K fdW ["thing"] []) (gW : mg "_law_whole" = some (.ref fW))
    (mi : mg "isinstance" = none) (mint : mg "int" = none) (mbool : mg "bool" = none) (mlist : mg "list" = none) (mtup : mg "tuple" = none) (mlen : mg "len" = none) : FnOk P w K mg base CX0 (k + 1 + 1) f fd ["crate", "number", "many", "told"] spRight := by
  have GW : FnOk P w K mg base CX0 (k + 1) fW fdW ["thing"] spWhole := ok_whole FW mi mint mbool
  refine F.ok scRight (fun vs H Q E h => ?_) (fun cdv A outer s H vs Q E hr h => ?_)
  · obtain ⟨t, R, ws, n, m, xs, rfl, _⟩ := h
    rfl
  · obtain ⟨t, R, ws, n, m, xs, rfl, ht, hw, eR, pR, hm, q⟩ := h
    refine ⟨_, pss_cons (ps_if (PW.pt (pw_or (pt_not (pt_val (pe_callB call_isi (by rfl) mi (by decide +kernel) (pa_cons (pv 3) (pa_cons (pe_bltn (v := .ty "list") (by rfl) mlist (by decide +kernel) rfl) pa_nil)))))
        (pw_or1 (pt_cmpR op_ne (pe_callB call_len_seq (by rfl) mlen PySem.boot_len (pa_cons (pv 3) pa_nil)) (pv 2) (nomark _)))))
        (pss_one (ps_ret pe_bl)) pss_nil)
      (pss_cons (ps_set (i := 4) scRight.nd rfl (.inl rfl) (pe_tup (pa_cons (pe_un un_neg pe_int) (pa_cons (pe_tup pa_nil) pa_nil))))
      (pss_cons (ps_for PassesOwn.never rfl (pi_list (pv 3)) (pg_name (i := 5) scRight.nd rfl (.inl rfl))
        (pss_cons (ps_if (PW.pt (pw_or (pt_not (pt_val (pe_callB call_isi (by rfl) mi (by decide +kernel) (pa_cons (pv 5) (pa_cons (pe_bltn (v := .ty "tuple") (by rfl) mtup (by decide +kernel) rfl) pa_nil)))))
            (pw_or (pt_cmpR op_ne (pe_callB call_len_seq (by rfl) mlen PySem.boot_len (pa_cons (pv 5) pa_nil)) pe_int (nomark _))
            (pw_or (pt_not (pt_val (pe_call GW hr (by rfl) gW FW.kp bW .nil pass0 (pa_cons (pe_ix ix_tup (pv 5) pe_int (fun _ _ => rfl)) pa_nil))))
            (pw_or1 (pt_not (pt_val (pe_callB call_isi (by rfl) mi (by decide +kernel) (pa_cons (pe_ix ix_tup (pv 5) pe_int (fun _ _ => rfl)) (pa_cons (pe_bltn (v := .ty "tuple") (by rfl) mtup (by decide +kernel) rfl) pa_nil))))))))))
          (pss_one (ps_ret pe_bl)) pss_nil)
        (pss_cons (ps_if (PW.pt (pw_or (pt_not (pt_chain op_le op_lt pe_int (pe_ix ix_tup (pv 5) pe_int (fun _ _ => rfl)) (pe_callB call_len_seq (by rfl) mlen PySem.boot_len (pa_cons (pv 0) pa_nil))))
            (pw_or1 (pt_cmpR op_ne (pe_callB call_len_seq (by rfl) mlen PySem.boot_len (pa_cons (pe_ix ix_tup (pv 5) pe_int (fun _ _ => rfl)) pa_nil)) (pe_ix ix_tup (pv 0) (pe_ix ix_tup (pv 5) pe_int (fun _ _ => rfl)) (fun _ _ => rfl)) (nomark _)))))
          (pss_one (ps_ret pe_bl)) pss_nil)
        (pss_cons (ps_for PassesOwn.never rfl (pi_tup (pe_ix ix_tup (pv 5) pe_int (fun _ _ => rfl))) (pg_name (i := 6) scRight.nd rfl (.inl rfl))
          (pss_one (ps_if (PW.pt (pw_or (pt_not (pt_val (pe_call GW hr (by rfl) gW FW.kp bW .nil pass0 (pa_cons (pv 6) pa_nil)))) (pw_or1 (pt_not (pt_chain op_le op_lt pe_int (pv 6) (pv 1)))))) (pss_one (ps_ret pe_bl)) pss_nil)))
        (pss_cons (ps_if (pt_not (pt_cmpR (op_ltD hr.units) (pv 4) (pv 5) (nomark _))) (pss_one (ps_ret pe_bl)) pss_nil)
        (pss_one (ps_set (i := 4) scRight.nd rfl (.inl rfl) (pv 5))))))))
      (pss_one (ps_ret pe_bl)))), ?_⟩
    refine ⟨.ref R, rfl, _, _, _, _, true, rfl, .ty "list", .base (.lst eR), kit_ty (by decide +kernel), _, rfl, ?_⟩
    refine iteF ?_
    refine ⟨.ref R, rfl, R, xs, rfl, .inl (SqL.of eR), .int m, rfl, rfl, _, rfl, ?_⟩
    rw [show V.int (xs.length : Int) = V.int m by rw [pR.1, hm]]
    refine iteNS rfl ?_
    -- behind = (-1, ())
    refine ⟨1, rfl, Nat.zero_le _, fun e0 h0 => ⟨(show 2 ≤ sizeLine by decide), fun b0 hb0 => ?_⟩⟩
    have s1 : Same H (upd (upd H e0 (.tup [])) b0 (.tup [.int (-1), .ref e0])) := (same_upd h0).trans (same_upd hb0)
    have g0 : (upd (upd H e0 (.tup [])) b0 (.tup [.int (-1), .ref e0])) b0 = some (.tup [.int (-1), .ref e0]) := upd_same
    have g1 : (upd (upd H e0 (.tup [])) b0 (.tup [.int (-1), .ref e0])) e0 = some (.tup []) := same_upd hb0 _ _ upd_same
    generalize upd (upd H e0 (.tup [])) b0 (.tup [.int (-1), .ref e0]) = H1 at s1 g0 g1 ⊢
    have eR1 := s1 _ _ eR
    have ht1 := s1 _ _ ht
    have pR1 := pR.keep (.of_same s1)
    have hbd : ∀ {j : Nat} {p : Int × List Int}, (fills n ws ws.length)[j]? = some p → 0 ≤ p.1 ∧ p.1 < (ws.length : Int) ∧ ws[p.1.toNat]? = some ((p.2.length : Nat) : Int) ∧ ∀ x ∈ p.2, 0 ≤ x ∧ x < (n : Int) := fun h => fills_mem (Nat.le_refl _) hw (List.mem_of_getElem? h)
    refine ⟨.ref R, rfl, R, rfl, ⟨_, SqL.of eR1⟩, for_list (K := K) (xs := xs) (fun j σ H2 => ∃ bh cb p y5 y6, σ = [some (.ref t), some (.int (n : Int)), some (.int m), some (.ref R), some (.ref bh), y5, y6] ∧ H2 = H1 ∧ H1 bh = some (.tup [.int p.1, .ref cb]) ∧ H1 cb = some (.tup (p.2.map V.int)) ∧ ∀ z, (fills n ws ws.length)[j]? = some z → LtP p z) ?_ (fun j σ H2 _ h => ?_) (fun j x σ H2 hx h => ?_) (fun σ H2 h => ?_)⟩
    · exact ⟨b0, e0, (-1, []), none, none, rfl, rfl, g0, g1, fun z hz => .inl (by have := (hbd hz).1; show (-1 : Int) < z.1; omega)⟩
    · obtain ⟨bh, cb, p, y5, y6, rfl, rfl, _⟩ := h
      exact SqL.of eR1
    · obtain ⟨bh, cb, p, y5, y6, rfl, rfl, eb, ec, hlt⟩ := h
      have hjl : j < (fills n ws ws.length).length := by
        rw [← pR1.1]
        exact (List.getElem?_eq_some_iff.mp hx).1
      have gz : (fills n ws ws.length)[j]? = some (fills n ws ws.length)[j] := List.getElem?_eq_getElem hjl
      generalize (fills n ws ws.length)[j] = z at gz
      obtain ⟨a, b, rfl, ea, ebb⟩ := pR1.2 j x z hx gz
      obtain ⟨z0, z1, z2, z3⟩ := hbd gz
      -- a tuple of two, a whole number, a tuple
      refine ⟨.ref a, rfl, _, _, _, _, true, rfl, .ty "tuple", .base (.tup ea), kit_ty (by decide +kernel), _, rfl, ?_⟩
      refine iteF ?_
      refine ⟨.ref a, rfl, a, _, rfl, .inr (SqT.of ea), rfl, _, rfl, ?_⟩
      refine iteNS rfl ?_
      refine ⟨.ref a, rfl, a, _, 0, _, rfl, rfl, SqT.of ea, at0, z.1, rfl, true, rfl, ?_⟩
      refine iteF ?_
      refine ⟨.ref a, rfl, a, _, 1, _, rfl, rfl, SqT.of ea, at1, _, _, _, _, true, rfl, .ty "tuple", .base (.tup ebb), kit_ty (by decide +kernel), _, rfl, ?_⟩
      refine iteF ?_
      -- the tray, its wells
      refine ⟨.ref a, rfl, a, _, 0, _, rfl, rfl, SqT.of ea, at0, 0, z.1, rfl, rfl, _, rfl, ?_⟩
      rw [decide_eq_true z0]
      refine iteT ?_
      refine ⟨.ref t, rfl, t, _, rfl, .inr (SqT.of ht1), _, _, rfl, rfl, _, rfl, ?_⟩
      rw [List.length_map, decide_eq_true z1]
      refine iteF ?_
      refine ⟨.ref a, rfl, a, _, 1, _, rfl, rfl, SqT.of ea, at1, b, _, rfl, .inr (SqT.of ebb), .ref t, rfl, .ref a, rfl, a, _, 0, _, rfl, rfl, SqT.of ea, at0, t, _, z.1, .int ((z.2.length : Nat) : Int), rfl, rfl, SqT.of ht1, ?_, rfl, _, rfl, ?_⟩
      · exact at_of (j := z.1.toNat) (by omega) (by rw [List.getElem?_map, z2]; rfl)
      rw [List.length_map]
      refine iteNS rfl ?_
      -- its things
      refine ⟨.ref a, rfl, a, _, 1, _, rfl, rfl, SqT.of ea, at1, b, rfl, ⟨_, SqT.of ebb⟩, for_tup (K := K) (xs := z.2.map V.int) (fun i σ H3 => ∃ y6, σ = [some (.ref t), some (.int (n : Int)), some (.int m), some (.ref R), some (.ref bh), some (.ref a), y6] ∧ H3 = H2) ⟨_, rfl, rfl⟩ (fun i σ H3 _ h => ?_) (fun i x σ H3 hx h => ?_) (fun σ H3 h => ?_)⟩
      · obtain ⟨y6, rfl, rfl⟩ := h
        exact SqT.of ebb
      · obtain ⟨y6, rfl, rfl⟩ := h
        obtain ⟨v, hv, rfl⟩ := map_get hx
        have hb := z3 v (List.mem_of_getElem? hv)
        refine ⟨.int v, rfl, v, rfl, true, rfl, ?_⟩
        refine iteF ?_
        refine ⟨.int v, rfl, 0, v, rfl, rfl, _, rfl, ?_⟩
        rw [decide_eq_true hb.1]
        refine iteT ?_
        refine ⟨.int (n : Int), rfl, v, (n : Int), rfl, rfl, _, rfl, ?_⟩
        rw [decide_eq_true hb.2]
        refine iteF ?_
        exact ⟨_, rfl, rfl⟩
      · obtain ⟨y6, rfl, rfl⟩ := h
        refine ⟨.ref bh, rfl, .ref a, rfl, dPair p, dPair z, dp_pair eb ec, dp_pair ea ebb, alike_pair p z, (fun e => by cases e), depth_pair p, _, rfl, ?_⟩
        rw [ltp_data (hlt z gz)]
        refine iteF ?_
        exact ⟨.ref a, rfl, a, b, z, _, _, rfl, rfl, ea, ebb, fun z' hz' => next_lt (fills_sorted n ws ws.length) gz hz'⟩
    · obtain ⟨bh, cb, p, y5, y6, rfl, rfl, _⟩ := h
      exact q H2 s1
end
theorem dp_bools {K : PySem.W.Frag} {H : Hp} {a : Addr} {x y z : Bool} (e : H a = some (.lst [.bl x, .bl y, .bl z])) : Dp K H (.ref a) (.list [.bool x, .bool y, .bool z]) := .lst (SqL.of e) (.cons (.bl x) (.cons (.bl y) (.cons (.bl z) .nil)))
theorem shaped_bools (x y z : Bool) : SeqAt.shaped (.list [.bool x, .bool y, .bool z]) = true := by
  unfold SeqAt.shaped
  simp [PyData.canLay0, PyData.canLayAll0, PyData.depth, PyData.depthAll]
theorem eqv_bools (x y z : Bool) : PyData.eqv (.list [.bool x, .bool y, .bool z]) (.list [.bool x, .bool y, .bool z]) = true := by
  simp [PyData.eqv, PyData.eqvAll]
section
variable {P : Program} {w : World} {K : PySem.W.Frag} {mg : Str → Option Value} {base : Heap}
def spLaw (K : PySem.W.Frag) : Sp := fun vs H Q _ => ∃ (a : Addr) (ns : List Int), vs = [.ref a] ∧ SqL K H a (ns.map V.int) ∧ ∀ H', Q (.bl true) H'
/-- the suite of the law's except, the error at a -/
def tsLaw (K : PySem.W.Frag) (C c1 c2 c3 c4 c5 c6 : Addr) : Addr → Value → Option Addr → TS := fun a cls d =>
  tSeq (tAsg (tCB (rIsXT K C a cls d) (tCons (tVar 7) (tCons (tTup (tCons (tC (.ref c1)) (tCons (tC (.ref c2)) (tCons (tC (.ref c3)) (tCons (tC (.ref c4)) (tCons (tC (.ref c5)) (tCons (tC (.ref c6)) tNil))))))) tNil))) (gName 8))
    (tAsg (tLst (tCons (tCB (rIsX K C a cls d) (tCons (tVar 7) (tCons (tC (.ref C)) tNil))) (tCons (tCB (rIsX K C a cls d) (tCons (tVar 7) (tCons (tC (.ty "ValueError")) tNil))) (tCons (tVar 8) tNil)))) (gName 6))
theorem ok_law {f fS fN fT fM fR fA fW fD fQ fG C CT c1 c2 c3 c4 c5 c6 : Addr} {fd fdS fdN fdT fdM fdR fdA fdW fdD fdQ fdG : FuncData} {tf : Tok} (F : Fun K "law" "law" sLaw f fd)
    (FS : Fun K "_law_source" "_law_source" sSource fS fdS) (bS : Binds K fdS ["script"] []) (gS : mg "_law_source" = some (.ref fS))
    (FN : Fun K "_law_next" "_law_next" sNext fN fdN) (bN : Binds K fdN ["source", "many"] []) (gN : mg "_law_next" = some (.ref fN))
    (FT : Fun K "how_many_of_tray" "how_many_of_tray" sTray fT fdT) (bT : Binds K fdT ["wells", "number"] []) (gT : mg "how_many_of_tray" = some (.ref fT))
    (FM : Fun K "how_many" "how_many" sMany fM fdM) (bM : Binds K fdM ["crate", "number"] []) (gM : mg "how_many" = some (.ref fM))
    (FR : Fun K "rising_things" "rising_things" sRise fR fdR) (bR : Binds K fdR ["wells", "number"] []) (gR : mg "rising_things" = some (.ref fR))
    (FA : Fun K "all_fillings" "all_fillings" sAll fA fdA) (bA : Binds K fdA ["crate", "number"] []) (gA : mg "all_fillings" = some (.ref fA))
    (FW : Fun K "_law_whole" "_law_whole" sWhole fW fdW) (bW : Binds K fdW ["thing"] []) (gW : mg "_law_whole" = some (.ref fW))
    (FD : Fun K "_law_drawn" "_law_drawn" sDrawn fD fdD) (bD : Binds K fdD ["source"] []) (gD : mg "_law_drawn" = some (.ref fD))
    (FQ : Fun K "_law_many" "_law_many" sCount fQ fdQ) (bQ : Binds K fdQ ["crate", "number"] []) (gQ : mg "_law_many" = some (.ref fQ))
    (FG : Fun K "_law_right" "_law_right" sRight fG fdG) (bG : Binds K fdG ["crate", "number", "many", "told"] []) (gG : mg "_law_right" = some (.ref fG))
    (gF : mg "MOST_FILLINGS" = some (.int 2000 tf)) (TC : ErrTxt K mg "TooMany" C) (xC : PySem.W.excIn K C [.type "ValueError", .type "Exception", .type "BaseException", .type "object"] "ValueError.__new__" = true) (XC : ExcC K C)
    (gTE : mg "TrayError" = some (.ref CT)) (eTE : PySem.W.exmOne K (.ref C) (.ref CT) = some true)
    (g1 : mg "NoName" = some (.ref c1)) (g2 : mg "NoNumber" = some (.ref c2)) (g3 : mg "NoRow" = some (.ref c3)) (g4 : mg "NoText" = some (.ref c4)) (g5 : mg "NoWay" = some (.ref c5)) (g6 : mg "TooBig" = some (.ref c6))
    (kO : PySem.W.kitAny K (.ref C) [.ref c1, .ref c2, .ref c3, .ref c4, .ref c5, .ref c6] = some false) (kS : PySem.W.kitOne K (.ref C) (.ref C) = some true) (kV : PySem.W.kitOne K (.ref C) (.type "ValueError") = some true)
    (mabs : mg "abs" = none) (ml : mg "list" = none) (mt : mg "tuple" = none) (mr : mg "range" = none) (mx : mg "max" = none) (ms : mg "sum" = none) (men : mg "enumerate" = none) (mi : mg "isinstance" = none) (mint : mg "int" = none) (mbool : mg "bool" = none) (mlen : mg "len" = none) (mve : mg "ValueError" = none) :
    FnOk P w K mg base CX0 4 f fd ["script"] (spLaw K) := by
  have GS : FnOk P w K mg base CX0 1 fS fdS ["script"] (spSource K) := ok_source FS ml
  have GD : FnOk P w K mg base CX0 2 fD fdD ["source"] spDrawn := ok_drawn FD FN bN gN mabs mt mr
  have GQ : FnOk P w K mg base CX0 1 fQ fdQ ["crate", "number"] spCount := ok_count FQ mr
  have GG : FnOk P w K mg base CX0 2 fG fdG ["crate", "number", "many", "told"] spRight := ok_right FG FW bW gW mi mint mbool ml mt mlen
  have GA : FnOk P w K mg base (L2.CX P w) 3 fA fdA ["crate", "number"] (spAll C) := ok_all (k := 0) FA FT bT gT FM bM gM FR bR gR gF TC ⟨true, xC, rfl⟩ mx mr ms men
  refine F.ok scLaw (fun vs H Q E h => ?_) (fun cdv A outer s H vs Q E hr h => ?_)
  · obtain ⟨a, ns, rfl, _⟩ := h
    rfl
  · obtain ⟨a, ns, rfl, hS, q⟩ := h
    have hr1 : Room 1 _ := hr.mono (by decide)
    have hr2 : Room 2 _ := hr.mono (by decide)
    refine ⟨_, pss_cons (ps_set (i := 1) scLaw.nd rfl (.inl rfl) (pe_call GS hr1 (by rfl) gS FS.kp bS .nil pass0 (pa_cons (pv 0) pa_nil)))
      (pss_cons (ps_asg (pe_call GD hr2 (by rfl) gD FD.kp bD .nil pass0 (pa_cons (pv 1) pa_nil)) (pg_tup rfl (pgs_cons (pg_name (i := 2) scLaw.nd rfl (.inl rfl)) (pgs_cons (pg_name (i := 3) scLaw.nd rfl (.inl rfl)) pgs_nil))))
      (pss_cons (ps_set (i := 4) scLaw.nd rfl (.inl rfl) (pe_call GQ hr1 (by rfl) gQ FQ.kp bQ .nil pass0 (pa_cons (pv 2) (pa_cons (pv 3) pa_nil))))
      (pss_cons (ps_set (i := 5) scLaw.nd rfl (.inl rfl) pe_non)
      (pss_cons (ps_set (i := 6) scLaw.nd rfl (.inl rfl) (pe_lst (pa_cons pe_bl (pa_cons pe_bl (pa_cons pe_bl pa_nil)))))
      (pss_cons (ps_try_as (i := 7) (c := .ref CT) (tb := fun W => tAsg (tCallS (spAll C) (WE W) (tCons (tVar 2) (tCons (tVar 3) tNil))) (gName 5)) (ts := tsLaw K C c1 c2 c3 c4 c5 c6) (Wout := fun _ _ _ _ => False) rfl rfl scLaw.nd rfl rfl ⟨rfl, by decide, .inl gTE⟩ takes0
        (fun W pn xe tk _ => pss_one (ps_set (i := 5) scLaw.nd rfl (.inl rfl) (by exact (pe_callS GA hr rfl gA FA.kp bA (fun σ => passAt tk σ) (by exact (pa_cons (pv 2) (pa_cons (pv 3) pa_nil)))))))
        (fun a oe cls d pn hz hf => pss_cons (ps_set (i := 8) scLaw.nd rfl (.inl rfl) (by exact (pe_callB (call_isXT XC hz hf) (by rfl) mi (by decide +kernel) (pa_cons (pv 7) (pa_cons (pe_tup (pa_cons (pe_glob rfl g1 rfl) (pa_cons (pe_glob rfl g2 rfl) (pa_cons (pe_glob rfl g3 rfl) (pa_cons (pe_glob rfl g4 rfl) (pa_cons (pe_glob rfl g5 rfl) (pa_cons (pe_glob rfl g6 rfl) pa_nil))))))) pa_nil)))))
          (pss_one (ps_set (i := 6) scLaw.nd rfl (.inl rfl) (by exact (pe_lst (pa_cons (pe_callB (call_isX XC hz hf) (by rfl) mi (by decide +kernel) (pa_cons (pv 7) (pa_cons (pe_glob rfl TC.g rfl) pa_nil))) (pa_cons (pe_callB (call_isX XC hz hf) (by rfl) mi (by decide +kernel) (pa_cons (pv 7) (pa_cons (pe_bltn (by rfl) mve (by decide +kernel) rfl) pa_nil))) (pa_cons (pv 8) pa_nil)))))))))
      (pss_cons (ps_if (pt_cmpR op_gt (pv 4) pe_int (nomark _)) (pss_one (ps_ret (pe_cmpR (op_eqD hr.units) (pv 6) (pe_lst (pa_cons pe_bl (pa_cons pe_bl (pa_cons pe_bl pa_nil)))) (nomark _)))) pss_nil)
      (pss_cons (ps_if (PW.pt (pw_or (pt_cmpR (op_neD hr.units) (pv 6) (pe_lst (pa_cons pe_bl (pa_cons pe_bl (pa_cons pe_bl pa_nil)))) (nomark _)) (pw_or1 (pt_not (pt_val (pe_call GG hr2 (by rfl) gG FG.kp bG .nil pass0 (pa_cons (pv 2) (pa_cons (pv 3) (pa_cons (pv 4) (pa_cons (pv 5) pa_nil)))))))))) (pss_one (ps_ret pe_bl)) pss_nil)
      (pss_cons (ps_expr (pe_bm PySem.F.plainAttrs_list PySem.F.slot_list_append PySem.F.type_list_append mt_append (pv 5) (pa_cons (pe_tup (pa_cons pe_int (pa_cons (pe_tup pa_nil) pa_nil))) pa_nil)))
      (pss_cons (ps_expr (pe_bm0 PySem.F.plainAttrs_list PySem.F.slot_list_reverse PySem.F.type_list_reverse mt_reverse (pv 5)))
      (pss_one (ps_ret (pe_call GG hr2 (by rfl) gG FG.kp bG .nil pass0 (pa_cons (pv 2) (pa_cons (pv 3) (pa_cons (pv 4) (pa_cons (pe_call GA hr (by rfl) gA FA.kp bA .nil passL (pa_cons (pv 2) (pa_cons (pv 3) pa_nil))) pa_nil)))))))))))))))), ?_⟩
    refine ⟨.ref a, rfl, a, ns, rfl, hS, fun p l H1 s1 np nl S1 => ?_⟩
    refine ⟨.ref p, rfl, p, l, rfl, S1, fun t u ws n H2 hl hw hn ft et eu S2 k2 => ?_⟩
    refine ⟨u, _, rfl, SqT.of eu, rfl, .ref t, [.int (n : Int)], rfl, .int (n : Int), [], rfl, rfl, ?_⟩
    refine ⟨.ref t, rfl, .int (n : Int), rfl, t, ws, (n : Int), rfl, et, hw, by omega, by omega, ?_⟩
    refine ⟨(show 3 ≤ sizeLine by decide), fun rf hrf => ?_⟩
    have et3 := same_upd (o := .lst [.bl false, .bl false, .bl false]) hrf _ _ et
    have e3 : (upd H2 rf (.lst [.bl false, .bl false, .bl false])) rf = some (.lst [.bl false, .bl false, .bl false]) := upd_same
    generalize upd H2 rf (.lst [.bl false, .bl false, .bl false]) = H3 at et3 e3 ⊢
    refine ⟨.ref t, rfl, .int (n : Int), rfl, t, ws, n, rfl, et3, hl, hw, hn, fun c0 H4 s4 => ?_, fun c0 R xs H4 s4 fR eR pR => ?_⟩
    · -- refused
      refine ⟨true, eTE, fun _ x hx => ?_, fun z => by cases z⟩
      refine ⟨.ref x, rfl, (show 6 ≤ sizeLine by decide), fun tp htp => ?_⟩
      refine ⟨rfl, rfl, tp, _, _, false, rfl, upd_same, .cons (.own c1) (.cons (.own c2) (.cons (.own c3) (.cons (.own c4) (.cons (.own c5) (.cons (.own c6) .nil))))), kO, ?_⟩
      refine ⟨.ref x, rfl, rfl, rfl, _, .ref C, true, rfl, (fun v hv => hv), kS, ?_⟩
      refine ⟨.ref x, rfl, rfl, rfl, _, .type "ValueError", true, rfl, (fun v hv => hv), kV, ?_⟩
      refine ⟨.bl false, rfl, (show 3 ≤ sizeLine by decide), fun rg hrg => ?_⟩
      refine ⟨.int (cnt (n : Int) ws), rfl, _, _, rfl, rfl, _, rfl, ?_⟩
      rw [decide_eq_true c0]
      refine iteT ?_
      refine ⟨.ref rg, rfl, (show 3 ≤ sizeLine by decide), fun rh hrh => ?_⟩
      refine ⟨_, _, dp_bools (same_upd hrh _ _ upd_same), dp_bools upd_same, shaped_bools _ _ _, shaped_bools _ _ _, ?_⟩
      rw [eqv_bools]
      exact q _
    · -- told
      have e4 := s4 _ _ e3
      have et4 := s4 _ _ et3
      have em : cnt (n : Int) ws = ((fills n ws ws.length).length : Int) := by
        rw [fills_len (Nat.le_refl _), List.take_length]
      refine ⟨.int (cnt (n : Int) ws), rfl, _, _, rfl, rfl, _, rfl, ?_⟩
      rw [decide_eq_false c0]
      refine iteF ?_
      refine ⟨.ref rf, rfl, (show 3 ≤ sizeLine by decide), fun rh hrh => ?_⟩
      refine ⟨_, _, dp_bools (same_upd hrh _ _ e4), dp_bools upd_same, shaped_bools _ _ _, shaped_bools _ _ _, _, rfl, ?_⟩
      rw [eqv_bools]
      refine iteF ?_
      have s5 : Same H4 (upd H4 rh (.lst [.bl false, .bl false, .bl false])) := same_upd hrh
      refine ⟨.ref t, rfl, .int (n : Int), rfl, .int (cnt (n : Int) ws), rfl, .ref R, rfl, t, R, ws, n, _, xs, rfl, s5 _ _ et4, hw, s5 _ _ eR, pR.keep (.of_same s5), em, fun H5 s6 => ?_⟩
      refine ⟨true, rfl, ?_⟩
      refine iteF ?_
      -- told is changed
      have eR5 := s6 _ _ (s5 _ _ eR)
      have et5 := s6 _ _ (s5 _ _ et4)
      refine ⟨.ref R, rfl, .inl ⟨rfl, _, SqL.of eR5⟩, Nat.zero_le _, fun e6 h6 => ⟨(show 2 ≤ sizeLine by decide), fun e7 h7 => ?_⟩⟩
      have eR6 := same_upd (o := .tup [.int 0, .ref e6]) h7 _ _ (same_upd (o := .tup []) h6 _ _ eR5)
      have et6 := same_upd (o := .tup [.int 0, .ref e6]) h7 _ _ (same_upd (o := .tup []) h6 _ _ et5)
      refine ⟨R, xs, .ref e7, rfl, rfl, eR6, ?_, ?_⟩
      · rw [pR.1]
        exact small2000 (by omega)
      have et7 := keep_lst (acc' := xs ++ [.ref e7]) eR6 _ _ et6
      have eR7 : (upd (upd (upd H5 e6 (.tup [])) e7 (.tup [.int 0, .ref e6])) R (.lst (xs ++ [.ref e7]))) R = some (.lst (xs ++ [.ref e7])) := upd_same
      generalize upd (upd (upd H5 e6 (.tup [])) e7 (.tup [.int 0, .ref e6])) R (.lst (xs ++ [.ref e7])) = H6 at et7 eR7 ⊢
      refine ⟨.ref R, rfl, .inl ⟨rfl, _, SqL.of eR7⟩, R, _, rfl, rfl, eR7, ?_⟩
      have et8 := keep_lst (acc' := (xs ++ [V.ref e7]).reverse) eR7 _ _ et7
      generalize upd H6 R (.lst (xs ++ [V.ref e7]).reverse) = H7 at et8 ⊢
      refine ⟨.ref t, rfl, .int (n : Int), rfl, .int (cnt (n : Int) ws), rfl, .ref t, rfl, .int (n : Int), rfl, t, ws, n, rfl, et8, hl, hw, hn, fun c1' => absurd c1' c0, fun _ R2 xs2 H8 s8 fR2 eR2 pR2 => ?_⟩
      exact ⟨t, R2, ws, n, _, xs2, rfl, s8 _ _ et8, hw, eR2, pR2, em, fun H9 _ => q H9⟩
end
theorem all_mk {l : PySem.W.OpenLaw} {w : World} {K : PySem.W.Frag} {h : Heap} {mg : Str → Option Value} {fa f1 f2 f3 f4 f5 f6 f7 f8 f9 f10 f11 C CT e1 e2 e3 e4 e5 e6 : Addr} (X : K.In h) (G : h.Ns mainGlobals mg) (hfa : mg "law" = some (.ref fa))
    {od1 an1 od2 an2 od3 an3 od4 an4 od5 an5 od6 an6 od7 an7 od8 an8 od9 an9 od10 an10 od11 an11 : Option Addr} {sl1 sl2 sl3 sl4 sl5 sl6 sl7 sl8 sl9 sl10 sl11 : Array (Option Value)} {oc1 kV1 dc1 pm1 cd1 ct1 oc2 kV2 dc2 pm2 cd2 ct2 oc3 kV3 dc3 pm3 cd3 ct3 oc4 kV4 dc4 pm4 cd4 ct4 oc5 kV5 dc5 pm5 cd5 ct5 oc6 kV6 dc6 pm6 cd6 ct6 oc7 kV7 dc7 pm7 cd7 ct7 oc8 kV8 dc8 pm8 cd8 ct8 oc9 kV9 dc9 pm9 cd9 ct9 oc10 kV10 dc10 pm10 cd10 ct10 oc11 kV11 dc11 pm11 cd11 ct11 : Value} {tf : Tok}
    (a1 : PySem.W.nsIn K mainGlobals "how_many_of_tray" = some (some (.ref f1))) (l1 : K.lookup f1 = some ⟨oc1, od1, .func (PySem.W.fnOf "how_many_of_tray" "how_many_of_tray" (defArgs sTray) (defBody sTray) (defScope sTray) .none kV1 dc1 pm1 an1 cd1 ct1), sl1⟩) (c1 : PySem.W.codeIn K cd1 "how_many_of_tray" = true) (k1 : PySem.W.keepIn K (.ref f1) = true)
    (a2 : PySem.W.nsIn K mainGlobals "how_many" = some (some (.ref f2))) (l2 : K.lookup f2 = some ⟨oc2, od2, .func (PySem.W.fnOf "how_many" "how_many" (defArgs sMany) (defBody sMany) (defScope sMany) .none kV2 dc2 pm2 an2 cd2 ct2), sl2⟩) (c2 : PySem.W.codeIn K cd2 "how_many" = true) (k2 : PySem.W.keepIn K (.ref f2) = true)
    (a3 : PySem.W.nsIn K mainGlobals "rising_things" = some (some (.ref f3))) (l3 : K.lookup f3 = some ⟨oc3, od3, .func (PySem.W.fnOf "rising_things" "rising_things" (defArgs sRise) (defBody sRise) (defScope sRise) .none kV3 dc3 pm3 an3 cd3 ct3), sl3⟩) (c3 : PySem.W.codeIn K cd3 "rising_things" = true) (k3 : PySem.W.keepIn K (.ref f3) = true)
    (a4 : PySem.W.nsIn K mainGlobals "all_fillings" = some (some (.ref f4))) (l4 : K.lookup f4 = some ⟨oc4, od4, .func (PySem.W.fnOf "all_fillings" "all_fillings" (defArgs sAll) (defBody sAll) (defScope sAll) .none kV4 dc4 pm4 an4 cd4 ct4), sl4⟩) (c4 : PySem.W.codeIn K cd4 "all_fillings" = true) (k4 : PySem.W.keepIn K (.ref f4) = true)
    (a5 : PySem.W.nsIn K mainGlobals "_law_source" = some (some (.ref f5))) (l5 : K.lookup f5 = some ⟨oc5, od5, .func (PySem.W.fnOf "_law_source" "_law_source" (defArgs sSource) (defBody sSource) (defScope sSource) .none kV5 dc5 pm5 an5 cd5 ct5), sl5⟩) (c5 : PySem.W.codeIn K cd5 "_law_source" = true) (k5 : PySem.W.keepIn K (.ref f5) = true)
    (a6 : PySem.W.nsIn K mainGlobals "_law_next" = some (some (.ref f6))) (l6 : K.lookup f6 = some ⟨oc6, od6, .func (PySem.W.fnOf "_law_next" "_law_next" (defArgs sNext) (defBody sNext) (defScope sNext) .none kV6 dc6 pm6 an6 cd6 ct6), sl6⟩) (c6 : PySem.W.codeIn K cd6 "_law_next" = true) (k6 : PySem.W.keepIn K (.ref f6) = true)
    (a7 : PySem.W.nsIn K mainGlobals "_law_whole" = some (some (.ref f7))) (l7 : K.lookup f7 = some ⟨oc7, od7, .func (PySem.W.fnOf "_law_whole" "_law_whole" (defArgs sWhole) (defBody sWhole) (defScope sWhole) .none kV7 dc7 pm7 an7 cd7 ct7), sl7⟩) (c7 : PySem.W.codeIn K cd7 "_law_whole" = true) (k7 : PySem.W.keepIn K (.ref f7) = true)
    (a8 : PySem.W.nsIn K mainGlobals "_law_drawn" = some (some (.ref f8))) (l8 : K.lookup f8 = some ⟨oc8, od8, .func (PySem.W.fnOf "_law_drawn" "_law_drawn" (defArgs sDrawn) (defBody sDrawn) (defScope sDrawn) .none kV8 dc8 pm8 an8 cd8 ct8), sl8⟩) (c8 : PySem.W.codeIn K cd8 "_law_drawn" = true) (k8 : PySem.W.keepIn K (.ref f8) = true)
    (a9 : PySem.W.nsIn K mainGlobals "_law_many" = some (some (.ref f9))) (l9 : K.lookup f9 = some ⟨oc9, od9, .func (PySem.W.fnOf "_law_many" "_law_many" (defArgs sCount) (defBody sCount) (defScope sCount) .none kV9 dc9 pm9 an9 cd9 ct9), sl9⟩) (c9 : PySem.W.codeIn K cd9 "_law_many" = true) (k9 : PySem.W.keepIn K (.ref f9) = true)
    (a10 : PySem.W.nsIn K mainGlobals "_law_right" = some (some (.ref f10))) (l10 : K.lookup f10 = some ⟨oc10, od10, .func (PySem.W.fnOf "_law_right" "_law_right" (defArgs sRight) (defBody sRight) (defScope sRight) .none kV10 dc10 pm10 an10 cd10 ct10), sl10⟩) (c10 : PySem.W.codeIn K cd10 "_law_right" = true) (k10 : PySem.W.keepIn K (.ref f10) = true)
    (a11 : PySem.W.nsIn K mainGlobals "law" = some (some (.ref f11))) (l11 : K.lookup f11 = some ⟨oc11, od11, .func (PySem.W.fnOf "law" "law" (defArgs sLaw) (defBody sLaw) (defScope sLaw) .none kV11 dc11 pm11 an11 cd11 ct11), sl11⟩) (c11 : PySem.W.codeIn K cd11 "law" = true) (k11 : PySem.W.keepIn K (.ref f11) = true)
    (w1 : PySem.W.nsIn K mainGlobals "MOST_FILLINGS" = some (some (.int 2000 tf)))
    (xa : PySem.W.nsIn K mainGlobals "TooMany" = some (some (.ref C)))
    (xk : PySem.W.keepIn K (.ref C) = true)
    (xb : PySem.W.subIn K (.ref C) (.type "BaseException") = some true)
    (xt : PySem.W.typeIn K (.ref C) = some (.type "type"))
    (xx : PySem.W.excIn K C [.type "ValueError", .type "Exception", .type "BaseException", .type "object"] "ValueError.__new__" = true)
    (y1 : PySem.W.findIn K (.ref C) "__getattribute__" = some (some (.builtin "BaseException.__getattribute__")))
    (y2 : PySem.W.findIn K (.ref C) "__getattr__" = some none)
    (y4 : PySem.W.hasDictIn K C = true)
    (y5 : PySem.W.findIn K (.ref C) "__class__" = some (some (.builtin "object.__class__")))
    (y6 : PySem.W.specialIn K (.builtin "object.__class__") "__get__" = some (some (.builtin "getset_descriptor.__get__")))
    (y7 : PySem.W.takesIn K (.builtin "object.__class__") = some true)
    (y8 : PySem.W.mroIn K C (.type "object") = some true)
    (t1 : PySem.W.nsIn K mainGlobals "TrayError" = some (some (.ref CT)))
    (t2 : PySem.W.subIn K (.ref CT) (.type "BaseException") = some true)
    (t3 : PySem.W.hasDictIn K CT = true)
    (t4 : PySem.W.typeIn K (.ref CT) = some (.type "type"))
    (t5 : PySem.W.subIn K (.ref C) (.ref CT) = some true)
    (v1 : PySem.W.nsIn K mainGlobals "NoName" = some (some (.ref e1)))
    (v2 : PySem.W.nsIn K mainGlobals "NoNumber" = some (some (.ref e2)))
    (v3 : PySem.W.nsIn K mainGlobals "NoRow" = some (some (.ref e3)))
    (v4 : PySem.W.nsIn K mainGlobals "NoText" = some (some (.ref e4)))
    (v5 : PySem.W.nsIn K mainGlobals "NoWay" = some (some (.ref e5)))
    (v6 : PySem.W.nsIn K mainGlobals "TooBig" = some (some (.ref e6)))
    (u1 : PySem.W.kitAny K (.ref C) [.ref e1, .ref e2, .ref e3, .ref e4, .ref e5, .ref e6] = some false)
    (u2 : PySem.W.kitOne K (.ref C) (.ref C) = some true)
    (u3 : PySem.W.kitOne K (.ref C) (.type "ValueError") = some true)
    (z1 : PySem.W.nsIn K mainGlobals "abs" = some none)
    (z2 : PySem.W.nsIn K mainGlobals "list" = some none)
    (z3 : PySem.W.nsIn K mainGlobals "tuple" = some none)
    (z4 : PySem.W.nsIn K mainGlobals "range" = some none)
    (z5 : PySem.W.nsIn K mainGlobals "max" = some none)
    (z6 : PySem.W.nsIn K mainGlobals "sum" = some none)
    (z7 : PySem.W.nsIn K mainGlobals "enumerate" = some none)
    (z8 : PySem.W.nsIn K mainGlobals "isinstance" = some none)
    (z9 : PySem.W.nsIn K mainGlobals "int" = some none)
    (z10 : PySem.W.nsIn K mainGlobals "bool" = some none)
    (z11 : PySem.W.nsIn K mainGlobals "len" = some none)
    (z12 : PySem.W.nsIn K mainGlobals "ValueError" = some none)
    : ∃ fd : FuncData, (∀ (s : Shared) (v : Value), BindsTo s fd ⟨[v], []⟩ [("script", v)]) ∧ ∀ base : Heap, K.In base → base.Ns mainGlobals mg → FnOk l.prog w K mg base CX0 4 fa fd ["script"] (spLaw K) := by
  have e := hfa.symm.trans (PySem.W.mg_of X G a11)
  cases e
  have F1 := fun_mk (st := sTray) l1 c1 k1
  have F2 := fun_mk (st := sMany) l2 c2 k2
  have F3 := fun_mk (st := sRise) l3 c3 k3
  have F4 := fun_mk (st := sAll) l4 c4 k4
  have F5 := fun_mk (st := sSource) l5 c5 k5
  have F6 := fun_mk (st := sNext) l6 c6 k6
  have F7 := fun_mk (st := sWhole) l7 c7 k7
  have F8 := fun_mk (st := sDrawn) l8 c8 k8
  have F9 := fun_mk (st := sCount) l9 c9 k9
  have F10 := fun_mk (st := sRight) l10 c10 k10
  have F11 := fun_mk (st := sLaw) l11 c11 k11
  have b1 := F1.binds (ps := ["wells", "number"]) fun _ _ _ _ _ _ us hl => match us, hl with | [_, _], _ => rfl
  have b2 := F2.binds (ps := ["crate", "number"]) fun _ _ _ _ _ _ us hl => match us, hl with | [_, _], _ => rfl
  have b3 := F3.binds (ps := ["wells", "number"]) fun _ _ _ _ _ _ us hl => match us, hl with | [_, _], _ => rfl
  have b4 := F4.binds (ps := ["crate", "number"]) fun _ _ _ _ _ _ us hl => match us, hl with | [_, _], _ => rfl
  have b5 := F5.binds (ps := ["script"]) fun _ _ _ _ _ _ us hl => match us, hl with | [_], _ => rfl
  have b6 := F6.binds (ps := ["source", "many"]) fun _ _ _ _ _ _ us hl => match us, hl with | [_, _], _ => rfl
  have b7 := F7.binds (ps := ["thing"]) fun _ _ _ _ _ _ us hl => match us, hl with | [_], _ => rfl
  have b8 := F8.binds (ps := ["source"]) fun _ _ _ _ _ _ us hl => match us, hl with | [_], _ => rfl
  have b9 := F9.binds (ps := ["crate", "number"]) fun _ _ _ _ _ _ us hl => match us, hl with | [_, _], _ => rfl
  have b10 := F10.binds (ps := ["crate", "number", "many", "told"]) fun _ _ _ _ _ _ us hl => match us, hl with | [_, _, _, _], _ => rfl
  exact ⟨PySem.W.fnOf "law" "law" (defArgs sLaw) (defBody sLaw) (defScope sLaw) .none kV11 dc11 pm11 an11 cd11 ct11, fun s v => .of_eq rfl, fun base _ _ => ok_law (F := F11) (FT := F1) (bT := b1) (gT := PySem.W.mg_of X G a1) (FM := F2) (bM := b2) (gM := PySem.W.mg_of X G a2) (FR := F3) (bR := b3) (gR := PySem.W.mg_of X G a3) (FA := F4) (bA := b4) (gA := PySem.W.mg_of X G a4) (FS := F5) (bS := b5) (gS := PySem.W.mg_of X G a5) (FN := F6) (bN := b6) (gN := PySem.W.mg_of X G a6) (FW := F7) (bW := b7) (gW := PySem.W.mg_of X G a7) (FD := F8) (bD := b8) (gD := PySem.W.mg_of X G a8) (FQ := F9) (bQ := b9) (gQ := PySem.W.mg_of X G a9) (FG := F10) (bG := b10) (gG := PySem.W.mg_of X G a10) (gF := PySem.W.mg_of X G w1) (mabs := PySem.W.mg_none_of X G z1) (ml := PySem.W.mg_none_of X G z2) (mt := PySem.W.mg_none_of X G z3) (mr := PySem.W.mg_none_of X G z4) (mx := PySem.W.mg_none_of X G z5) (ms := PySem.W.mg_none_of X G z6) (men := PySem.W.mg_none_of X G z7) (mi := PySem.W.mg_none_of X G z8) (mint := PySem.W.mg_none_of X G z9) (mbool := PySem.W.mg_none_of X G z10) (mlen := PySem.W.mg_none_of X G z11) (mve := PySem.W.mg_none_of X G z12) (TC := ⟨PySem.W.mg_of X G xa, xk, xb, xt⟩) (xC := xx) (XC := ⟨y1, y2, xb, y4, y5, y6, y7, y8⟩) (gTE := PySem.W.mg_of X G t1) (eTE := PySem.W.exm_ref t2 t3 t4 t5) (g1 := PySem.W.mg_of X G v1) (g2 := PySem.W.mg_of X G v2) (g3 := PySem.W.mg_of X G v3) (g4 := PySem.W.mg_of X G v4) (g5 := PySem.W.mg_of X G v5) (g6 := PySem.W.mg_of X G v6) (kO := u1) (kS := u2) (kV := u3)⟩
end Tm
open PySem PySem.W PyProof.Rows
set_option maxHeartbeats 0 in
theorem PySem.Challenge.cw_traymap_k04_all_fillings_holds : PySem.Challenge.rw_traymap_k04_all_fillings.Holds := by
  w_on; o_law; k_head; (case hw => w_witness2)
  k_fill
  refine L2.walk_of (l := PySem.Challenge.rw_traymap_k04_all_fillings) (n := 63) (k := 4) (x := "script") (CX := fun _ => L2.CX0) (sp := fun w => Tm.spLaw _) rfl (by decide) rfl ⟨rfl, by decide, by decide⟩ (fun w h Y => PySem.W.kIn_of Y) ?F (fun _ _ a ns hl _ hS => ⟨a, ns, rfl, hS, fun _ => rfl⟩) (fun _ _ _ _ _ h => h)
  case F =>
    intro w mg fa h KX G hmg
    refine' Tm.all_mk KX G hmg ?a1 ?l1 ?c1 ?k1 ?a2 ?l2 ?c2 ?k2 ?a3 ?l3 ?c3 ?k3 ?a4 ?l4 ?c4 ?k4 ?a5 ?l5 ?c5 ?k5 ?a6 ?l6 ?c6 ?k6 ?a7 ?l7 ?c7 ?k7 ?a8 ?l8 ?c8 ?k8 ?a9 ?l9 ?c9 ?k9 ?a10 ?l10 ?c10 ?k10 ?a11 ?l11 ?c11 ?k11 ?w1 ?xa ?xk ?xb ?xt ?xx ?y1 ?y2 ?y4 ?y5 ?y6 ?y7 ?y8 ?t1 ?t2 ?t3 ?t4 ?t5 ?v1 ?v2 ?v3 ?v4 ?v5 ?v6 ?u1 ?u2 ?u3 ?z1 ?z2 ?z3 ?z4 ?z5 ?z6 ?z7 ?z8 ?z9 ?z10 ?z11 ?z12
    (case a1 => k_is); (case l1 => k_is); (case c1 => k_is); (case k1 => k_is); (case a2 => k_is); (case l2 => k_is); (case c2 => k_is); (case k2 => k_is); (case a3 => k_is); (case l3 => k_is); (case c3 => k_is); (case k3 => k_is); (case a4 => k_is); (case l4 => k_is); (case c4 => k_is); (case k4 => k_is); (case a5 => k_is); (case l5 => k_is); (case c5 => k_is); (case k5 => k_is); (case a6 => k_is); (case l6 => k_is); (case c6 => k_is); (case k6 => k_is); (case a7 => k_is); (case l7 => k_is); (case c7 => k_is); (case k7 => k_is); (case a8 => k_is); (case l8 => k_is); (case c8 => k_is); (case k8 => k_is); (case a9 => k_is); (case l9 => k_is); (case c9 => k_is); (case k9 => k_is); (case a10 => k_is); (case l10 => k_is); (case c10 => k_is); (case k10 => k_is); (case a11 => k_is); (case l11 => k_is); (case c11 => k_is); (case k11 => k_is); (case w1 => k_is); (case xa => first | k_is | rfl | kernel_rfl | decide +kernel); (case xk => first | k_is | rfl | kernel_rfl | decide +kernel); (case xb => first | k_is | rfl | kernel_rfl | decide +kernel); (case xt => first | k_is | rfl | kernel_rfl | decide +kernel); (case xx => first | k_exc | first | rfl | kernel_rfl | decide +kernel | k_is); (case y1 => first | k_is | rfl | kernel_rfl | decide +kernel); (case y2 => first | k_is | rfl | kernel_rfl | decide +kernel); (case y4 => first | k_is | rfl | kernel_rfl | decide +kernel); (case y5 => first | k_is | rfl | kernel_rfl | decide +kernel); (case y6 => first | k_is | rfl | kernel_rfl | decide +kernel); (case y7 => first | k_is | rfl | kernel_rfl | decide +kernel); (case y8 => first | k_is | rfl | kernel_rfl | decide +kernel); (case t1 => first | k_is | rfl | kernel_rfl | decide +kernel); (case t2 => first | k_is | rfl | kernel_rfl | decide +kernel); (case t3 => first | k_is | rfl | kernel_rfl | decide +kernel); (case t4 => first | k_is | rfl | kernel_rfl | decide +kernel); (case t5 => first | rfl | k_is | kernel_rfl | decide +kernel); (case v1 => first | k_is | rfl | kernel_rfl | decide +kernel); (case v2 => first | k_is | rfl | kernel_rfl | decide +kernel); (case v3 => first | k_is | rfl | kernel_rfl | decide +kernel); (case v4 => first | k_is | rfl | kernel_rfl | decide +kernel); (case v5 => first | k_is | rfl | kernel_rfl | decide +kernel); (case v6 => first | k_is | rfl | kernel_rfl | decide +kernel); (case u1 => first | rfl | kernel_rfl | decide +kernel | k_is); (case u2 => first | rfl | kernel_rfl | decide +kernel | k_is); (case u3 => first | rfl | kernel_rfl | decide +kernel | k_is); (case z1 => k_is); (case z2 => k_is); (case z3 => k_is); (case z4 => k_is); (case z5 => k_is); (case z6 => k_is); (case z7 => k_is); (case z8 => k_is); (case z9 => k_is); (case z10 => k_is); (case z11 => k_is); (case z12 => k_is)
